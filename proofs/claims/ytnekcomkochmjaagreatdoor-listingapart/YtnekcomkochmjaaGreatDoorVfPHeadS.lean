/- The program's head: its region, step by step. -/
import Derived.Test.YtnekcomkochmjaaGreatDoorVfPHeadR
namespace Go.Proofs.YtnekcomkochmjaaGreatDoor
set_option linter.unusedVariables false
set_option linter.unusedSimpArgs false
open Go.RowKit

set_option maxRecDepth 20000 in
set_option maxHeartbeats 8000000 in
theorem head_step {ops : Array Oper} {β : Nat → Bool} {f : Fm} {s : Fs} {b0 o bx : Nat} {a0 : Act} {C : World → Prop} (htab : ops.toList.map tri = opT)
    (hc : ∀ w, C w → w.cell? ⟨bx, 0, none⟩ = some (.pointer (some ⟨b0, o, none⟩)) ∧ w.cell? ⟨b0, o, none⟩ = some (.string f.name) ∧ w.cell? ⟨b0, o + 1, none⟩ = some (.int .i64 f.params) ∧ w.cell? ⟨b0, o + 2, none⟩ = some (.int .i64 f.locals) ∧ w.cell? ⟨b0, o + 3, none⟩ = some (.slice s.qc f.caps.length s.cc) ∧ w.cell? ⟨b0, o + 4, none⟩ = some (.slice s.qk f.consts.length s.ck) ∧ w.cell? ⟨b0, o + 5, none⟩ = some (.slice s.qi f.code.length s.ci) ∧ w.cell? ⟨b0, o + 6, none⟩ = some (.slice s.ql f.lines.length s.cl) ∧ w.cell? ⟨b0, o + 7, none⟩ = some (.slice s.qh f.hs.length s.ch))
    (ha0 : a0.tmps[1]? = some (.pointer (some ⟨bx, 0, none⟩)))
    (hβ0 : decide ((f.name.size : Int) ≤ 4096) = β 0)
    (hβ1 : decide ((0 : Int) ≤ f.params) = β 1)
    (hβ2 : decide (f.params ≤ f.locals) = β 2)
    (hβ3 : decide (f.locals ≤ 64) = β 3)
    (hβ4 : decide ((f.caps.length : Int) ≤ 4096) = β 4)
    (hβ5 : decide ((f.consts.length : Int) ≤ 16384) = β 5)
    (hβ7 : decide ((1 : Int) ≤ (f.code.length : Int)) = β 7)
    (hβ8 : decide ((f.code.length : Int) ≤ 16384) = β 8)
    (hβ9 : ((f.lines.length : Int) == (f.code.length : Int)) = β 9)
    (hβ11 : decide ((f.hs.length : Int) ≤ 16384) = β 11)
    (hcall6 : pre β 6 = true → ∀ w, C w → Calls Tryz.prog 41 #[.slice s.qk f.consts.length s.ck, .func (.func 42) #[] #[]] w (fun e w'' => e = .returned (.bool (β 6)) ∧ C w''))
    (hcall10 : pre β 10 = true → ∀ w, C w → Calls Tryz.prog 43 #[.slice s.ql f.lines.length s.cl, .func (.func 44) #[] #[]] w (fun e w'' => e = .returned (.bool (β 10)) ∧ C w''))
    (hcall12 : pre β 12 = true → ∀ w, C w → Calls Tryz.prog 45 #[.slice s.qh f.hs.length s.ch, .func (.func 46) #[] #[.pointer (some ⟨bx, 0, none⟩)]] w (fun e w'' => e = .returned (.bool (β 12)) ∧ C w'')) :
    ∀ (k : Nat) (x : Oper) (a : Act), ops[k]? = some x → wantF β k = true → Known ops (wantF β) (valF β f s b0 o bx) a0 k a → ∀ w, C w → x.quietAt Tryz.prog a C w (valF β f s b0 o bx k) := by
  intro k x a ho hw hk w hC
  have hkl : k < 107 := by
    have h1 := (Array.getElem?_eq_some_iff.1 ho).1
    have h2 := congrArg List.length htab
    simp at h2
    have h3 : opT.length = 107 := rfl
    omega
  have h1 : ∀ a : Act, Known ops (wantF β) (valF β f s b0 o bx) a0 k a → a.tmps[1]? = some (.pointer (some ⟨bx, 0, none⟩)) := fun a hk => by
    rw [hk.old 1 (fun j y hy hj e => ?_)]
    · exact ha0
    · have h2 := opg htab hy
      have h3 : dstL.getD j none = some 1 := by
        rw [← dst_ok, List.getD_eq_getElem?_getD, List.getElem?_map, h2]
        simp [e]
      exact (dst_low j (by omega) 1 h3).2 rfl
  by_cases q2 : k < 53
  · by_cases q4 : k < 26
    · by_cases q6 : k < 13
      · by_cases q8 : k < 6
        · by_cases q10 : k < 3
          · by_cases q12 : k < 1
            · obtain rfl : k = 0 := by omega
              rw [show valF β f s b0 o bx 0 = .pointer (some ⟨b0, o, none⟩) from by kernel_rfl]
              exact q_loadPF (opa htab ho (t := (.load 54 (.tmp 1), some 3, none)) (by kernel_rfl)) (kold hk h1) (hc w hC).1
            · by_cases q14 : k < 2
              · obtain rfl : k = 1 := by omega
                rw [show valF β f s b0 o bx 1 = .pointer (some ⟨b0, o, none⟩) from by kernel_rfl]
                exact q_nil (opa htab ho (t := (.nilCheck (.tmp 3), some 4, none)) (by kernel_rfl)) (ev_v (j := 0) (p := .load 54 (.tmp 1)) (d := 3) (g := none) (v := .pointer (some ⟨b0, o, none⟩)) hk htab (by kernel_rfl) (by decide) (by kernel_rfl) (by kernel_rfl))
              · obtain rfl : k = 2 := by omega
                rw [show valF β f s b0 o bx 2 = .pointer (some ⟨b0, o, none⟩) from by kernel_rfl]
                exact q_field0 (opa htab ho (t := (.fieldAddr 45 (.tmp 4) 0, some 5, none)) (by kernel_rfl)) (ev_v (j := 1) (p := .nilCheck (.tmp 3)) (d := 4) (g := none) (v := .pointer (some ⟨b0, o, none⟩)) hk htab (by kernel_rfl) (by decide) (by kernel_rfl) (by kernel_rfl))
          · by_cases q12 : k < 4
            · obtain rfl : k = 3 := by omega
              rw [show valF β f s b0 o bx 3 = .string f.name from by kernel_rfl]
              exact q_loadS (opa htab ho (t := (.load 9 (.tmp 5), some 6, none)) (by kernel_rfl)) (ev_v (j := 2) (p := .fieldAddr 45 (.tmp 4) 0) (d := 5) (g := none) (v := .pointer (some ⟨b0, o, none⟩)) hk htab (by kernel_rfl) (by decide) (by kernel_rfl) (by kernel_rfl)) (hc w hC).2.1
            · by_cases q14 : k < 5
              · obtain rfl : k = 4 := by omega
                rw [show valF β f s b0 o bx 4 = .int .i64 ((f.name.size : Nat) : Int) from by kernel_rfl]
                exact q_lenS (opa htab ho (t := (.call { callee := .builtin .len, args := #[.tmp 6], argTypes := #[9] }, some 7, none)) (by kernel_rfl)) (ev_v (j := 3) (p := .load 9 (.tmp 5)) (d := 6) (g := none) (v := .string f.name) hk htab (by kernel_rfl) (by decide) (by kernel_rfl) (by kernel_rfl))
              · obtain rfl : k = 5 := by omega
                rw [show valF β f s b0 o bx 5 = .bool (β 0) from by kernel_rfl]
                exact (by rw [← hβ0]; exact q_leq (opa htab ho (t := (.binOp .leq 3 (.tmp 7) (.const (.int .i64 4096)) 3, some 8, none)) (by kernel_rfl)) (ev_v (j := 4) (p := .call { callee := .builtin .len, args := #[.tmp 6], argTypes := #[9] }) (d := 7) (g := none) (v := .int .i64 ((f.name.size : Nat) : Int)) hk htab (by kernel_rfl) (by decide) (by kernel_rfl) (by kernel_rfl)) rfl)
        · by_cases q10 : k < 9
          · by_cases q12 : k < 7
            · obtain rfl : k = 6 := by omega
              rw [show valF β f s b0 o bx 6 = .bool (pre β 1) from by kernel_rfl]
              exact q_move (opa htab ho (t := (.move (.tmp 8), some 9, none)) (by kernel_rfl)) (ev_v (j := 5) (p := .binOp .leq 3 (.tmp 7) (.const (.int .i64 4096)) 3) (d := 8) (g := none) (v := .bool (β 0)) hk htab (by kernel_rfl) (by decide) (by kernel_rfl) (by kernel_rfl))
            · by_cases q14 : k < 8
              · obtain rfl : k = 7 := by omega
                rw [show valF β f s b0 o bx 7 = .pointer (some ⟨b0, o, none⟩) from by kernel_rfl]
                have hp : pre β 1 = true := (show pre β 1 = wantF β 7 from by kernel_rfl).trans hw
                exact q_loadPF (opa htab ho (t := (.load 54 (.tmp 1), some 10, some (6, true))) (by kernel_rfl)) (kold hk h1) (hc w hC).1
              · obtain rfl : k = 8 := by omega
                rw [show valF β f s b0 o bx 8 = .pointer (some ⟨b0, o, none⟩) from by kernel_rfl]
                have hp : pre β 1 = true := (show pre β 1 = wantF β 8 from by kernel_rfl).trans hw
                exact q_nil (opa htab ho (t := (.nilCheck (.tmp 10), some 11, some (6, true))) (by kernel_rfl)) (ev_v (j := 7) (p := .load 54 (.tmp 1)) (d := 10) (g := some (6, true)) (v := .pointer (some ⟨b0, o, none⟩)) hk htab (by kernel_rfl) (by decide) (by kernel_rfl) ((show wantF β 7 = pre β 1 from by kernel_rfl).trans hp))
          · by_cases q12 : k < 11
            · by_cases q14 : k < 10
              · obtain rfl : k = 9 := by omega
                rw [show valF β f s b0 o bx 9 = .pointer (some ⟨b0, o + 1, none⟩) from by kernel_rfl]
                have hp : pre β 1 = true := (show pre β 1 = wantF β 9 from by kernel_rfl).trans hw
                exact q_field1 (opa htab ho (t := (.fieldAddr 45 (.tmp 11) 1, some 12, some (6, true))) (by kernel_rfl)) (ev_v (j := 8) (p := .nilCheck (.tmp 10)) (d := 11) (g := some (6, true)) (v := .pointer (some ⟨b0, o, none⟩)) hk htab (by kernel_rfl) (by decide) (by kernel_rfl) ((show wantF β 8 = pre β 1 from by kernel_rfl).trans hp))
              · obtain rfl : k = 10 := by omega
                rw [show valF β f s b0 o bx 10 = .int .i64 f.params from by kernel_rfl]
                have hp : pre β 1 = true := (show pre β 1 = wantF β 10 from by kernel_rfl).trans hw
                exact q_loadI (opa htab ho (t := (.load 3 (.tmp 12), some 13, some (6, true))) (by kernel_rfl)) (ev_v (j := 9) (p := .fieldAddr 45 (.tmp 11) 1) (d := 12) (g := some (6, true)) (v := .pointer (some ⟨b0, o + 1, none⟩)) hk htab (by kernel_rfl) (by decide) (by kernel_rfl) ((show wantF β 9 = pre β 1 from by kernel_rfl).trans hp)) (hc w hC).2.2.1
            · by_cases q14 : k < 12
              · obtain rfl : k = 11 := by omega
                rw [show valF β f s b0 o bx 11 = .bool (β 1) from by kernel_rfl]
                have hp : pre β 1 = true := (show pre β 1 = wantF β 11 from by kernel_rfl).trans hw
                exact (by rw [← hβ1]; exact q_geq (opa htab ho (t := (.binOp .geq 3 (.tmp 13) (.const (.int .i64 0)) 3, some 14, some (6, true))) (by kernel_rfl)) (ev_v (j := 10) (p := .load 3 (.tmp 12)) (d := 13) (g := some (6, true)) (v := .int .i64 f.params) hk htab (by kernel_rfl) (by decide) (by kernel_rfl) ((show wantF β 10 = pre β 1 from by kernel_rfl).trans hp)) rfl)
              · obtain rfl : k = 12 := by omega
                rw [show valF β f s b0 o bx 12 = .bool (pre β 2) from by kernel_rfl]
                exact q_pick (opa htab ho (t := (.pick (.tmp 9) (.tmp 14) (.const (.bool false)), some 15, none)) (by kernel_rfl)) (ev_v (j := 6) (p := .move (.tmp 8)) (d := 9) (g := none) (v := .bool (pre β 1)) hk htab (by kernel_rfl) (by decide) (by kernel_rfl) (by kernel_rfl)) (pick_pre (ev_l (j := 11) (p := .binOp .geq 3 (.tmp 13) (.const (.int .i64 0)) 3) (d := 14) (g := some (6, true)) (v := .bool (β 1)) (b := pre β 1) hk htab (by kernel_rfl) (by decide) (by kernel_rfl) (by kernel_rfl)))
      · by_cases q8 : k < 19
        · by_cases q10 : k < 16
          · by_cases q12 : k < 14
            · obtain rfl : k = 13 := by omega
              rw [show valF β f s b0 o bx 13 = .bool (pre β 2) from by kernel_rfl]
              exact q_move (opa htab ho (t := (.move (.tmp 15), some 16, none)) (by kernel_rfl)) (ev_v (j := 12) (p := .pick (.tmp 9) (.tmp 14) (.const (.bool false))) (d := 15) (g := none) (v := .bool (pre β 2)) hk htab (by kernel_rfl) (by decide) (by kernel_rfl) (by kernel_rfl))
            · by_cases q14 : k < 15
              · obtain rfl : k = 14 := by omega
                rw [show valF β f s b0 o bx 14 = .pointer (some ⟨b0, o, none⟩) from by kernel_rfl]
                have hp : pre β 2 = true := (show pre β 2 = wantF β 14 from by kernel_rfl).trans hw
                exact q_loadPF (opa htab ho (t := (.load 54 (.tmp 1), some 17, some (13, true))) (by kernel_rfl)) (kold hk h1) (hc w hC).1
              · obtain rfl : k = 15 := by omega
                rw [show valF β f s b0 o bx 15 = .pointer (some ⟨b0, o, none⟩) from by kernel_rfl]
                have hp : pre β 2 = true := (show pre β 2 = wantF β 15 from by kernel_rfl).trans hw
                exact q_nil (opa htab ho (t := (.nilCheck (.tmp 17), some 18, some (13, true))) (by kernel_rfl)) (ev_v (j := 14) (p := .load 54 (.tmp 1)) (d := 17) (g := some (13, true)) (v := .pointer (some ⟨b0, o, none⟩)) hk htab (by kernel_rfl) (by decide) (by kernel_rfl) ((show wantF β 14 = pre β 2 from by kernel_rfl).trans hp))
          · by_cases q12 : k < 17
            · obtain rfl : k = 16 := by omega
              rw [show valF β f s b0 o bx 16 = .pointer (some ⟨b0, o + 1, none⟩) from by kernel_rfl]
              have hp : pre β 2 = true := (show pre β 2 = wantF β 16 from by kernel_rfl).trans hw
              exact q_field1 (opa htab ho (t := (.fieldAddr 45 (.tmp 18) 1, some 19, some (13, true))) (by kernel_rfl)) (ev_v (j := 15) (p := .nilCheck (.tmp 17)) (d := 18) (g := some (13, true)) (v := .pointer (some ⟨b0, o, none⟩)) hk htab (by kernel_rfl) (by decide) (by kernel_rfl) ((show wantF β 15 = pre β 2 from by kernel_rfl).trans hp))
            · by_cases q14 : k < 18
              · obtain rfl : k = 17 := by omega
                rw [show valF β f s b0 o bx 17 = .int .i64 f.params from by kernel_rfl]
                have hp : pre β 2 = true := (show pre β 2 = wantF β 17 from by kernel_rfl).trans hw
                exact q_loadI (opa htab ho (t := (.load 3 (.tmp 19), some 20, some (13, true))) (by kernel_rfl)) (ev_v (j := 16) (p := .fieldAddr 45 (.tmp 18) 1) (d := 19) (g := some (13, true)) (v := .pointer (some ⟨b0, o + 1, none⟩)) hk htab (by kernel_rfl) (by decide) (by kernel_rfl) ((show wantF β 16 = pre β 2 from by kernel_rfl).trans hp)) (hc w hC).2.2.1
              · obtain rfl : k = 18 := by omega
                rw [show valF β f s b0 o bx 18 = .pointer (some ⟨b0, o, none⟩) from by kernel_rfl]
                have hp : pre β 2 = true := (show pre β 2 = wantF β 18 from by kernel_rfl).trans hw
                exact q_loadPF (opa htab ho (t := (.load 54 (.tmp 1), some 21, some (13, true))) (by kernel_rfl)) (kold hk h1) (hc w hC).1
        · by_cases q10 : k < 22
          · by_cases q12 : k < 20
            · obtain rfl : k = 19 := by omega
              rw [show valF β f s b0 o bx 19 = .pointer (some ⟨b0, o, none⟩) from by kernel_rfl]
              have hp : pre β 2 = true := (show pre β 2 = wantF β 19 from by kernel_rfl).trans hw
              exact q_nil (opa htab ho (t := (.nilCheck (.tmp 21), some 22, some (13, true))) (by kernel_rfl)) (ev_v (j := 18) (p := .load 54 (.tmp 1)) (d := 21) (g := some (13, true)) (v := .pointer (some ⟨b0, o, none⟩)) hk htab (by kernel_rfl) (by decide) (by kernel_rfl) ((show wantF β 18 = pre β 2 from by kernel_rfl).trans hp))
            · by_cases q14 : k < 21
              · obtain rfl : k = 20 := by omega
                rw [show valF β f s b0 o bx 20 = .pointer (some ⟨b0, o + 2, none⟩) from by kernel_rfl]
                have hp : pre β 2 = true := (show pre β 2 = wantF β 20 from by kernel_rfl).trans hw
                exact q_field2 (opa htab ho (t := (.fieldAddr 45 (.tmp 22) 2, some 23, some (13, true))) (by kernel_rfl)) (ev_v (j := 19) (p := .nilCheck (.tmp 21)) (d := 22) (g := some (13, true)) (v := .pointer (some ⟨b0, o, none⟩)) hk htab (by kernel_rfl) (by decide) (by kernel_rfl) ((show wantF β 19 = pre β 2 from by kernel_rfl).trans hp))
              · obtain rfl : k = 21 := by omega
                rw [show valF β f s b0 o bx 21 = .int .i64 f.locals from by kernel_rfl]
                have hp : pre β 2 = true := (show pre β 2 = wantF β 21 from by kernel_rfl).trans hw
                exact q_loadI (opa htab ho (t := (.load 3 (.tmp 23), some 24, some (13, true))) (by kernel_rfl)) (ev_v (j := 20) (p := .fieldAddr 45 (.tmp 22) 2) (d := 23) (g := some (13, true)) (v := .pointer (some ⟨b0, o + 2, none⟩)) hk htab (by kernel_rfl) (by decide) (by kernel_rfl) ((show wantF β 20 = pre β 2 from by kernel_rfl).trans hp)) (hc w hC).2.2.2.1
          · by_cases q12 : k < 24
            · by_cases q14 : k < 23
              · obtain rfl : k = 22 := by omega
                rw [show valF β f s b0 o bx 22 = .bool (β 2) from by kernel_rfl]
                have hp : pre β 2 = true := (show pre β 2 = wantF β 22 from by kernel_rfl).trans hw
                exact (by rw [← hβ2]; exact q_leq (opa htab ho (t := (.binOp .leq 3 (.tmp 20) (.tmp 24) 3, some 25, some (13, true))) (by kernel_rfl)) (ev_v (j := 17) (p := .load 3 (.tmp 19)) (d := 20) (g := some (13, true)) (v := .int .i64 f.params) hk htab (by kernel_rfl) (by decide) (by kernel_rfl) ((show wantF β 17 = pre β 2 from by kernel_rfl).trans hp)) (ev_v (j := 21) (p := .load 3 (.tmp 23)) (d := 24) (g := some (13, true)) (v := .int .i64 f.locals) hk htab (by kernel_rfl) (by decide) (by kernel_rfl) ((show wantF β 21 = pre β 2 from by kernel_rfl).trans hp)))
              · obtain rfl : k = 23 := by omega
                rw [show valF β f s b0 o bx 23 = .bool (pre β 3) from by kernel_rfl]
                exact q_pick (opa htab ho (t := (.pick (.tmp 16) (.tmp 25) (.const (.bool false)), some 26, none)) (by kernel_rfl)) (ev_v (j := 13) (p := .move (.tmp 15)) (d := 16) (g := none) (v := .bool (pre β 2)) hk htab (by kernel_rfl) (by decide) (by kernel_rfl) (by kernel_rfl)) (pick_pre (ev_l (j := 22) (p := .binOp .leq 3 (.tmp 20) (.tmp 24) 3) (d := 25) (g := some (13, true)) (v := .bool (β 2)) (b := pre β 2) hk htab (by kernel_rfl) (by decide) (by kernel_rfl) (by kernel_rfl)))
            · by_cases q14 : k < 25
              · obtain rfl : k = 24 := by omega
                rw [show valF β f s b0 o bx 24 = .bool (pre β 3) from by kernel_rfl]
                exact q_move (opa htab ho (t := (.move (.tmp 26), some 27, none)) (by kernel_rfl)) (ev_v (j := 23) (p := .pick (.tmp 16) (.tmp 25) (.const (.bool false))) (d := 26) (g := none) (v := .bool (pre β 3)) hk htab (by kernel_rfl) (by decide) (by kernel_rfl) (by kernel_rfl))
              · obtain rfl : k = 25 := by omega
                rw [show valF β f s b0 o bx 25 = .pointer (some ⟨b0, o, none⟩) from by kernel_rfl]
                have hp : pre β 3 = true := (show pre β 3 = wantF β 25 from by kernel_rfl).trans hw
                exact q_loadPF (opa htab ho (t := (.load 54 (.tmp 1), some 28, some (24, true))) (by kernel_rfl)) (kold hk h1) (hc w hC).1
    · by_cases q6 : k < 39
      · by_cases q8 : k < 32
        · by_cases q10 : k < 29
          · by_cases q12 : k < 27
            · obtain rfl : k = 26 := by omega
              rw [show valF β f s b0 o bx 26 = .pointer (some ⟨b0, o, none⟩) from by kernel_rfl]
              have hp : pre β 3 = true := (show pre β 3 = wantF β 26 from by kernel_rfl).trans hw
              exact q_nil (opa htab ho (t := (.nilCheck (.tmp 28), some 29, some (24, true))) (by kernel_rfl)) (ev_v (j := 25) (p := .load 54 (.tmp 1)) (d := 28) (g := some (24, true)) (v := .pointer (some ⟨b0, o, none⟩)) hk htab (by kernel_rfl) (by decide) (by kernel_rfl) ((show wantF β 25 = pre β 3 from by kernel_rfl).trans hp))
            · by_cases q14 : k < 28
              · obtain rfl : k = 27 := by omega
                rw [show valF β f s b0 o bx 27 = .pointer (some ⟨b0, o + 2, none⟩) from by kernel_rfl]
                have hp : pre β 3 = true := (show pre β 3 = wantF β 27 from by kernel_rfl).trans hw
                exact q_field2 (opa htab ho (t := (.fieldAddr 45 (.tmp 29) 2, some 30, some (24, true))) (by kernel_rfl)) (ev_v (j := 26) (p := .nilCheck (.tmp 28)) (d := 29) (g := some (24, true)) (v := .pointer (some ⟨b0, o, none⟩)) hk htab (by kernel_rfl) (by decide) (by kernel_rfl) ((show wantF β 26 = pre β 3 from by kernel_rfl).trans hp))
              · obtain rfl : k = 28 := by omega
                rw [show valF β f s b0 o bx 28 = .int .i64 f.locals from by kernel_rfl]
                have hp : pre β 3 = true := (show pre β 3 = wantF β 28 from by kernel_rfl).trans hw
                exact q_loadI (opa htab ho (t := (.load 3 (.tmp 30), some 31, some (24, true))) (by kernel_rfl)) (ev_v (j := 27) (p := .fieldAddr 45 (.tmp 29) 2) (d := 30) (g := some (24, true)) (v := .pointer (some ⟨b0, o + 2, none⟩)) hk htab (by kernel_rfl) (by decide) (by kernel_rfl) ((show wantF β 27 = pre β 3 from by kernel_rfl).trans hp)) (hc w hC).2.2.2.1
          · by_cases q12 : k < 30
            · obtain rfl : k = 29 := by omega
              rw [show valF β f s b0 o bx 29 = .bool (β 3) from by kernel_rfl]
              have hp : pre β 3 = true := (show pre β 3 = wantF β 29 from by kernel_rfl).trans hw
              exact (by rw [← hβ3]; exact q_leq (opa htab ho (t := (.binOp .leq 3 (.tmp 31) (.const (.int .i64 64)) 3, some 32, some (24, true))) (by kernel_rfl)) (ev_v (j := 28) (p := .load 3 (.tmp 30)) (d := 31) (g := some (24, true)) (v := .int .i64 f.locals) hk htab (by kernel_rfl) (by decide) (by kernel_rfl) ((show wantF β 28 = pre β 3 from by kernel_rfl).trans hp)) rfl)
            · by_cases q14 : k < 31
              · obtain rfl : k = 30 := by omega
                rw [show valF β f s b0 o bx 30 = .bool (pre β 4) from by kernel_rfl]
                exact q_pick (opa htab ho (t := (.pick (.tmp 27) (.tmp 32) (.const (.bool false)), some 33, none)) (by kernel_rfl)) (ev_v (j := 24) (p := .move (.tmp 26)) (d := 27) (g := none) (v := .bool (pre β 3)) hk htab (by kernel_rfl) (by decide) (by kernel_rfl) (by kernel_rfl)) (pick_pre (ev_l (j := 29) (p := .binOp .leq 3 (.tmp 31) (.const (.int .i64 64)) 3) (d := 32) (g := some (24, true)) (v := .bool (β 3)) (b := pre β 3) hk htab (by kernel_rfl) (by decide) (by kernel_rfl) (by kernel_rfl)))
              · obtain rfl : k = 31 := by omega
                rw [show valF β f s b0 o bx 31 = .bool (pre β 4) from by kernel_rfl]
                exact q_move (opa htab ho (t := (.move (.tmp 33), some 34, none)) (by kernel_rfl)) (ev_v (j := 30) (p := .pick (.tmp 27) (.tmp 32) (.const (.bool false))) (d := 33) (g := none) (v := .bool (pre β 4)) hk htab (by kernel_rfl) (by decide) (by kernel_rfl) (by kernel_rfl))
        · by_cases q10 : k < 35
          · by_cases q12 : k < 33
            · obtain rfl : k = 32 := by omega
              rw [show valF β f s b0 o bx 32 = .pointer (some ⟨b0, o, none⟩) from by kernel_rfl]
              have hp : pre β 4 = true := (show pre β 4 = wantF β 32 from by kernel_rfl).trans hw
              exact q_loadPF (opa htab ho (t := (.load 54 (.tmp 1), some 35, some (31, true))) (by kernel_rfl)) (kold hk h1) (hc w hC).1
            · by_cases q14 : k < 34
              · obtain rfl : k = 33 := by omega
                rw [show valF β f s b0 o bx 33 = .pointer (some ⟨b0, o, none⟩) from by kernel_rfl]
                have hp : pre β 4 = true := (show pre β 4 = wantF β 33 from by kernel_rfl).trans hw
                exact q_nil (opa htab ho (t := (.nilCheck (.tmp 35), some 36, some (31, true))) (by kernel_rfl)) (ev_v (j := 32) (p := .load 54 (.tmp 1)) (d := 35) (g := some (31, true)) (v := .pointer (some ⟨b0, o, none⟩)) hk htab (by kernel_rfl) (by decide) (by kernel_rfl) ((show wantF β 32 = pre β 4 from by kernel_rfl).trans hp))
              · obtain rfl : k = 34 := by omega
                rw [show valF β f s b0 o bx 34 = .pointer (some ⟨b0, o + 3, none⟩) from by kernel_rfl]
                have hp : pre β 4 = true := (show pre β 4 = wantF β 34 from by kernel_rfl).trans hw
                exact q_field3 (opa htab ho (t := (.fieldAddr 45 (.tmp 36) 3, some 37, some (31, true))) (by kernel_rfl)) (ev_v (j := 33) (p := .nilCheck (.tmp 35)) (d := 36) (g := some (31, true)) (v := .pointer (some ⟨b0, o, none⟩)) hk htab (by kernel_rfl) (by decide) (by kernel_rfl) ((show wantF β 33 = pre β 4 from by kernel_rfl).trans hp))
          · by_cases q12 : k < 37
            · by_cases q14 : k < 36
              · obtain rfl : k = 35 := by omega
                rw [show valF β f s b0 o bx 35 = .slice s.qc f.caps.length s.cc from by kernel_rfl]
                have hp : pre β 4 = true := (show pre β 4 = wantF β 35 from by kernel_rfl).trans hw
                exact q_loadCP (opa htab ho (t := (.load 41 (.tmp 37), some 38, some (31, true))) (by kernel_rfl)) (ev_v (j := 34) (p := .fieldAddr 45 (.tmp 36) 3) (d := 37) (g := some (31, true)) (v := .pointer (some ⟨b0, o + 3, none⟩)) hk htab (by kernel_rfl) (by decide) (by kernel_rfl) ((show wantF β 34 = pre β 4 from by kernel_rfl).trans hp)) (hc w hC).2.2.2.2.1
              · obtain rfl : k = 36 := by omega
                rw [show valF β f s b0 o bx 36 = .int .i64 ((f.caps.length : Nat) : Int) from by kernel_rfl]
                have hp : pre β 4 = true := (show pre β 4 = wantF β 36 from by kernel_rfl).trans hw
                exact q_lenCP (opa htab ho (t := (.call { callee := .builtin .len, args := #[.tmp 38], argTypes := #[41] }, some 39, some (31, true))) (by kernel_rfl)) (ev_v (j := 35) (p := .load 41 (.tmp 37)) (d := 38) (g := some (31, true)) (v := .slice s.qc f.caps.length s.cc) hk htab (by kernel_rfl) (by decide) (by kernel_rfl) ((show wantF β 35 = pre β 4 from by kernel_rfl).trans hp))
            · by_cases q14 : k < 38
              · obtain rfl : k = 37 := by omega
                rw [show valF β f s b0 o bx 37 = .bool (β 4) from by kernel_rfl]
                have hp : pre β 4 = true := (show pre β 4 = wantF β 37 from by kernel_rfl).trans hw
                exact (by rw [← hβ4]; exact q_leq (opa htab ho (t := (.binOp .leq 3 (.tmp 39) (.const (.int .i64 4096)) 3, some 40, some (31, true))) (by kernel_rfl)) (ev_v (j := 36) (p := .call { callee := .builtin .len, args := #[.tmp 38], argTypes := #[41] }) (d := 39) (g := some (31, true)) (v := .int .i64 ((f.caps.length : Nat) : Int)) hk htab (by kernel_rfl) (by decide) (by kernel_rfl) ((show wantF β 36 = pre β 4 from by kernel_rfl).trans hp)) rfl)
              · obtain rfl : k = 38 := by omega
                rw [show valF β f s b0 o bx 38 = .bool (pre β 5) from by kernel_rfl]
                exact q_pick (opa htab ho (t := (.pick (.tmp 34) (.tmp 40) (.const (.bool false)), some 41, none)) (by kernel_rfl)) (ev_v (j := 31) (p := .move (.tmp 33)) (d := 34) (g := none) (v := .bool (pre β 4)) hk htab (by kernel_rfl) (by decide) (by kernel_rfl) (by kernel_rfl)) (pick_pre (ev_l (j := 37) (p := .binOp .leq 3 (.tmp 39) (.const (.int .i64 4096)) 3) (d := 40) (g := some (31, true)) (v := .bool (β 4)) (b := pre β 4) hk htab (by kernel_rfl) (by decide) (by kernel_rfl) (by kernel_rfl)))
      · by_cases q8 : k < 46
        · by_cases q10 : k < 42
          · by_cases q12 : k < 40
            · obtain rfl : k = 39 := by omega
              rw [show valF β f s b0 o bx 39 = .bool (pre β 5) from by kernel_rfl]
              exact q_move (opa htab ho (t := (.move (.tmp 41), some 42, none)) (by kernel_rfl)) (ev_v (j := 38) (p := .pick (.tmp 34) (.tmp 40) (.const (.bool false))) (d := 41) (g := none) (v := .bool (pre β 5)) hk htab (by kernel_rfl) (by decide) (by kernel_rfl) (by kernel_rfl))
            · by_cases q14 : k < 41
              · obtain rfl : k = 40 := by omega
                rw [show valF β f s b0 o bx 40 = .pointer (some ⟨b0, o, none⟩) from by kernel_rfl]
                have hp : pre β 5 = true := (show pre β 5 = wantF β 40 from by kernel_rfl).trans hw
                exact q_loadPF (opa htab ho (t := (.load 54 (.tmp 1), some 43, some (39, true))) (by kernel_rfl)) (kold hk h1) (hc w hC).1
              · obtain rfl : k = 41 := by omega
                rw [show valF β f s b0 o bx 41 = .pointer (some ⟨b0, o, none⟩) from by kernel_rfl]
                have hp : pre β 5 = true := (show pre β 5 = wantF β 41 from by kernel_rfl).trans hw
                exact q_nil (opa htab ho (t := (.nilCheck (.tmp 43), some 44, some (39, true))) (by kernel_rfl)) (ev_v (j := 40) (p := .load 54 (.tmp 1)) (d := 43) (g := some (39, true)) (v := .pointer (some ⟨b0, o, none⟩)) hk htab (by kernel_rfl) (by decide) (by kernel_rfl) ((show wantF β 40 = pre β 5 from by kernel_rfl).trans hp))
          · by_cases q12 : k < 44
            · by_cases q14 : k < 43
              · obtain rfl : k = 42 := by omega
                rw [show valF β f s b0 o bx 42 = .pointer (some ⟨b0, o + 4, none⟩) from by kernel_rfl]
                have hp : pre β 5 = true := (show pre β 5 = wantF β 42 from by kernel_rfl).trans hw
                exact q_field4 (opa htab ho (t := (.fieldAddr 45 (.tmp 44) 4, some 45, some (39, true))) (by kernel_rfl)) (ev_v (j := 41) (p := .nilCheck (.tmp 43)) (d := 44) (g := some (39, true)) (v := .pointer (some ⟨b0, o, none⟩)) hk htab (by kernel_rfl) (by decide) (by kernel_rfl) ((show wantF β 41 = pre β 5 from by kernel_rfl).trans hp))
              · obtain rfl : k = 43 := by omega
                rw [show valF β f s b0 o bx 43 = .slice s.qk f.consts.length s.ck from by kernel_rfl]
                have hp : pre β 5 = true := (show pre β 5 = wantF β 43 from by kernel_rfl).trans hw
                exact q_loadCK (opa htab ho (t := (.load 42 (.tmp 45), some 46, some (39, true))) (by kernel_rfl)) (ev_v (j := 42) (p := .fieldAddr 45 (.tmp 44) 4) (d := 45) (g := some (39, true)) (v := .pointer (some ⟨b0, o + 4, none⟩)) hk htab (by kernel_rfl) (by decide) (by kernel_rfl) ((show wantF β 42 = pre β 5 from by kernel_rfl).trans hp)) (hc w hC).2.2.2.2.2.1
            · by_cases q14 : k < 45
              · obtain rfl : k = 44 := by omega
                rw [show valF β f s b0 o bx 44 = .int .i64 ((f.consts.length : Nat) : Int) from by kernel_rfl]
                have hp : pre β 5 = true := (show pre β 5 = wantF β 44 from by kernel_rfl).trans hw
                exact q_lenCK (opa htab ho (t := (.call { callee := .builtin .len, args := #[.tmp 46], argTypes := #[42] }, some 47, some (39, true))) (by kernel_rfl)) (ev_v (j := 43) (p := .load 42 (.tmp 45)) (d := 46) (g := some (39, true)) (v := .slice s.qk f.consts.length s.ck) hk htab (by kernel_rfl) (by decide) (by kernel_rfl) ((show wantF β 43 = pre β 5 from by kernel_rfl).trans hp))
              · obtain rfl : k = 45 := by omega
                rw [show valF β f s b0 o bx 45 = .bool (β 5) from by kernel_rfl]
                have hp : pre β 5 = true := (show pre β 5 = wantF β 45 from by kernel_rfl).trans hw
                exact (by rw [← hβ5]; exact q_leq (opa htab ho (t := (.binOp .leq 3 (.tmp 47) (.const (.int .i64 16384)) 3, some 48, some (39, true))) (by kernel_rfl)) (ev_v (j := 44) (p := .call { callee := .builtin .len, args := #[.tmp 46], argTypes := #[42] }) (d := 47) (g := some (39, true)) (v := .int .i64 ((f.consts.length : Nat) : Int)) hk htab (by kernel_rfl) (by decide) (by kernel_rfl) ((show wantF β 44 = pre β 5 from by kernel_rfl).trans hp)) rfl)
        · by_cases q10 : k < 49
          · by_cases q12 : k < 47
            · obtain rfl : k = 46 := by omega
              rw [show valF β f s b0 o bx 46 = .bool (pre β 6) from by kernel_rfl]
              exact q_pick (opa htab ho (t := (.pick (.tmp 42) (.tmp 48) (.const (.bool false)), some 49, none)) (by kernel_rfl)) (ev_v (j := 39) (p := .move (.tmp 41)) (d := 42) (g := none) (v := .bool (pre β 5)) hk htab (by kernel_rfl) (by decide) (by kernel_rfl) (by kernel_rfl)) (pick_pre (ev_l (j := 45) (p := .binOp .leq 3 (.tmp 47) (.const (.int .i64 16384)) 3) (d := 48) (g := some (39, true)) (v := .bool (β 5)) (b := pre β 5) hk htab (by kernel_rfl) (by decide) (by kernel_rfl) (by kernel_rfl)))
            · by_cases q14 : k < 48
              · obtain rfl : k = 47 := by omega
                rw [show valF β f s b0 o bx 47 = .bool (pre β 6) from by kernel_rfl]
                exact q_move (opa htab ho (t := (.move (.tmp 49), some 50, none)) (by kernel_rfl)) (ev_v (j := 46) (p := .pick (.tmp 42) (.tmp 48) (.const (.bool false))) (d := 49) (g := none) (v := .bool (pre β 6)) hk htab (by kernel_rfl) (by decide) (by kernel_rfl) (by kernel_rfl))
              · obtain rfl : k = 48 := by omega
                rw [show valF β f s b0 o bx 48 = .pointer (some ⟨b0, o, none⟩) from by kernel_rfl]
                have hp : pre β 6 = true := (show pre β 6 = wantF β 48 from by kernel_rfl).trans hw
                exact q_loadPF (opa htab ho (t := (.load 54 (.tmp 1), some 51, some (47, true))) (by kernel_rfl)) (kold hk h1) (hc w hC).1
          · by_cases q12 : k < 51
            · by_cases q14 : k < 50
              · obtain rfl : k = 49 := by omega
                rw [show valF β f s b0 o bx 49 = .pointer (some ⟨b0, o, none⟩) from by kernel_rfl]
                have hp : pre β 6 = true := (show pre β 6 = wantF β 49 from by kernel_rfl).trans hw
                exact q_nil (opa htab ho (t := (.nilCheck (.tmp 51), some 52, some (47, true))) (by kernel_rfl)) (ev_v (j := 48) (p := .load 54 (.tmp 1)) (d := 51) (g := some (47, true)) (v := .pointer (some ⟨b0, o, none⟩)) hk htab (by kernel_rfl) (by decide) (by kernel_rfl) ((show wantF β 48 = pre β 6 from by kernel_rfl).trans hp))
              · obtain rfl : k = 50 := by omega
                rw [show valF β f s b0 o bx 50 = .pointer (some ⟨b0, o + 4, none⟩) from by kernel_rfl]
                have hp : pre β 6 = true := (show pre β 6 = wantF β 50 from by kernel_rfl).trans hw
                exact q_field4 (opa htab ho (t := (.fieldAddr 45 (.tmp 52) 4, some 53, some (47, true))) (by kernel_rfl)) (ev_v (j := 49) (p := .nilCheck (.tmp 51)) (d := 52) (g := some (47, true)) (v := .pointer (some ⟨b0, o, none⟩)) hk htab (by kernel_rfl) (by decide) (by kernel_rfl) ((show wantF β 49 = pre β 6 from by kernel_rfl).trans hp))
            · by_cases q14 : k < 52
              · obtain rfl : k = 51 := by omega
                rw [show valF β f s b0 o bx 51 = .slice s.qk f.consts.length s.ck from by kernel_rfl]
                have hp : pre β 6 = true := (show pre β 6 = wantF β 51 from by kernel_rfl).trans hw
                exact q_loadCK (opa htab ho (t := (.load 42 (.tmp 53), some 54, some (47, true))) (by kernel_rfl)) (ev_v (j := 50) (p := .fieldAddr 45 (.tmp 52) 4) (d := 53) (g := some (47, true)) (v := .pointer (some ⟨b0, o + 4, none⟩)) hk htab (by kernel_rfl) (by decide) (by kernel_rfl) ((show wantF β 50 = pre β 6 from by kernel_rfl).trans hp)) (hc w hC).2.2.2.2.2.1
              · obtain rfl : k = 52 := by omega
                rw [show valF β f s b0 o bx 52 = .bool (β 6) from by kernel_rfl]
                have hp : pre β 6 = true := (show pre β 6 = wantF β 52 from by kernel_rfl).trans hw
                exact q_callC (opa htab ho (t := (.call { callee := .value (.func 41), args := #[.tmp 54, .func 42], argTypes := #[42, 106] }, some 55, some (47, true))) (by kernel_rfl)) (ev_v (j := 51) (p := .load 42 (.tmp 53)) (d := 54) (g := some (47, true)) (v := .slice s.qk f.consts.length s.ck) hk htab (by kernel_rfl) (by decide) (by kernel_rfl) ((show wantF β 51 = pre β 6 from by kernel_rfl).trans hp)) (hcall6 hp w hC)
  · by_cases q4 : k < 80
    · by_cases q6 : k < 66
      · by_cases q8 : k < 59
        · by_cases q10 : k < 56
          · by_cases q12 : k < 54
            · obtain rfl : k = 53 := by omega
              rw [show valF β f s b0 o bx 53 = .bool (pre β 7) from by kernel_rfl]
              exact q_pick (opa htab ho (t := (.pick (.tmp 50) (.tmp 55) (.const (.bool false)), some 56, none)) (by kernel_rfl)) (ev_v (j := 47) (p := .move (.tmp 49)) (d := 50) (g := none) (v := .bool (pre β 6)) hk htab (by kernel_rfl) (by decide) (by kernel_rfl) (by kernel_rfl)) (pick_pre (ev_l (j := 52) (p := .call { callee := .value (.func 41), args := #[.tmp 54, .func 42], argTypes := #[42, 106] }) (d := 55) (g := some (47, true)) (v := .bool (β 6)) (b := pre β 6) hk htab (by kernel_rfl) (by decide) (by kernel_rfl) (by kernel_rfl)))
            · by_cases q14 : k < 55
              · obtain rfl : k = 54 := by omega
                rw [show valF β f s b0 o bx 54 = .bool (pre β 7) from by kernel_rfl]
                exact q_move (opa htab ho (t := (.move (.tmp 56), some 57, none)) (by kernel_rfl)) (ev_v (j := 53) (p := .pick (.tmp 50) (.tmp 55) (.const (.bool false))) (d := 56) (g := none) (v := .bool (pre β 7)) hk htab (by kernel_rfl) (by decide) (by kernel_rfl) (by kernel_rfl))
              · obtain rfl : k = 55 := by omega
                rw [show valF β f s b0 o bx 55 = .pointer (some ⟨b0, o, none⟩) from by kernel_rfl]
                have hp : pre β 7 = true := (show pre β 7 = wantF β 55 from by kernel_rfl).trans hw
                exact q_loadPF (opa htab ho (t := (.load 54 (.tmp 1), some 58, some (54, true))) (by kernel_rfl)) (kold hk h1) (hc w hC).1
          · by_cases q12 : k < 57
            · obtain rfl : k = 56 := by omega
              rw [show valF β f s b0 o bx 56 = .pointer (some ⟨b0, o, none⟩) from by kernel_rfl]
              have hp : pre β 7 = true := (show pre β 7 = wantF β 56 from by kernel_rfl).trans hw
              exact q_nil (opa htab ho (t := (.nilCheck (.tmp 58), some 59, some (54, true))) (by kernel_rfl)) (ev_v (j := 55) (p := .load 54 (.tmp 1)) (d := 58) (g := some (54, true)) (v := .pointer (some ⟨b0, o, none⟩)) hk htab (by kernel_rfl) (by decide) (by kernel_rfl) ((show wantF β 55 = pre β 7 from by kernel_rfl).trans hp))
            · by_cases q14 : k < 58
              · obtain rfl : k = 57 := by omega
                rw [show valF β f s b0 o bx 57 = .pointer (some ⟨b0, o + 5, none⟩) from by kernel_rfl]
                have hp : pre β 7 = true := (show pre β 7 = wantF β 57 from by kernel_rfl).trans hw
                exact q_field5 (opa htab ho (t := (.fieldAddr 45 (.tmp 59) 5, some 60, some (54, true))) (by kernel_rfl)) (ev_v (j := 56) (p := .nilCheck (.tmp 58)) (d := 59) (g := some (54, true)) (v := .pointer (some ⟨b0, o, none⟩)) hk htab (by kernel_rfl) (by decide) (by kernel_rfl) ((show wantF β 56 = pre β 7 from by kernel_rfl).trans hp))
              · obtain rfl : k = 58 := by omega
                rw [show valF β f s b0 o bx 58 = .slice s.qi f.code.length s.ci from by kernel_rfl]
                have hp : pre β 7 = true := (show pre β 7 = wantF β 58 from by kernel_rfl).trans hw
                exact q_loadIN (opa htab ho (t := (.load 39 (.tmp 60), some 61, some (54, true))) (by kernel_rfl)) (ev_v (j := 57) (p := .fieldAddr 45 (.tmp 59) 5) (d := 60) (g := some (54, true)) (v := .pointer (some ⟨b0, o + 5, none⟩)) hk htab (by kernel_rfl) (by decide) (by kernel_rfl) ((show wantF β 57 = pre β 7 from by kernel_rfl).trans hp)) (hc w hC).2.2.2.2.2.2.1
        · by_cases q10 : k < 62
          · by_cases q12 : k < 60
            · obtain rfl : k = 59 := by omega
              rw [show valF β f s b0 o bx 59 = .int .i64 ((f.code.length : Nat) : Int) from by kernel_rfl]
              have hp : pre β 7 = true := (show pre β 7 = wantF β 59 from by kernel_rfl).trans hw
              exact q_lenIN (opa htab ho (t := (.call { callee := .builtin .len, args := #[.tmp 61], argTypes := #[39] }, some 62, some (54, true))) (by kernel_rfl)) (ev_v (j := 58) (p := .load 39 (.tmp 60)) (d := 61) (g := some (54, true)) (v := .slice s.qi f.code.length s.ci) hk htab (by kernel_rfl) (by decide) (by kernel_rfl) ((show wantF β 58 = pre β 7 from by kernel_rfl).trans hp))
            · by_cases q14 : k < 61
              · obtain rfl : k = 60 := by omega
                rw [show valF β f s b0 o bx 60 = .bool (β 7) from by kernel_rfl]
                have hp : pre β 7 = true := (show pre β 7 = wantF β 60 from by kernel_rfl).trans hw
                exact (by rw [← hβ7]; exact q_geq (opa htab ho (t := (.binOp .geq 3 (.tmp 62) (.const (.int .i64 1)) 3, some 63, some (54, true))) (by kernel_rfl)) (ev_v (j := 59) (p := .call { callee := .builtin .len, args := #[.tmp 61], argTypes := #[39] }) (d := 62) (g := some (54, true)) (v := .int .i64 ((f.code.length : Nat) : Int)) hk htab (by kernel_rfl) (by decide) (by kernel_rfl) ((show wantF β 59 = pre β 7 from by kernel_rfl).trans hp)) rfl)
              · obtain rfl : k = 61 := by omega
                rw [show valF β f s b0 o bx 61 = .bool (pre β 8) from by kernel_rfl]
                exact q_pick (opa htab ho (t := (.pick (.tmp 57) (.tmp 63) (.const (.bool false)), some 64, none)) (by kernel_rfl)) (ev_v (j := 54) (p := .move (.tmp 56)) (d := 57) (g := none) (v := .bool (pre β 7)) hk htab (by kernel_rfl) (by decide) (by kernel_rfl) (by kernel_rfl)) (pick_pre (ev_l (j := 60) (p := .binOp .geq 3 (.tmp 62) (.const (.int .i64 1)) 3) (d := 63) (g := some (54, true)) (v := .bool (β 7)) (b := pre β 7) hk htab (by kernel_rfl) (by decide) (by kernel_rfl) (by kernel_rfl)))
          · by_cases q12 : k < 64
            · by_cases q14 : k < 63
              · obtain rfl : k = 62 := by omega
                rw [show valF β f s b0 o bx 62 = .bool (pre β 8) from by kernel_rfl]
                exact q_move (opa htab ho (t := (.move (.tmp 64), some 65, none)) (by kernel_rfl)) (ev_v (j := 61) (p := .pick (.tmp 57) (.tmp 63) (.const (.bool false))) (d := 64) (g := none) (v := .bool (pre β 8)) hk htab (by kernel_rfl) (by decide) (by kernel_rfl) (by kernel_rfl))
              · obtain rfl : k = 63 := by omega
                rw [show valF β f s b0 o bx 63 = .pointer (some ⟨b0, o, none⟩) from by kernel_rfl]
                have hp : pre β 8 = true := (show pre β 8 = wantF β 63 from by kernel_rfl).trans hw
                exact q_loadPF (opa htab ho (t := (.load 54 (.tmp 1), some 66, some (62, true))) (by kernel_rfl)) (kold hk h1) (hc w hC).1
            · by_cases q14 : k < 65
              · obtain rfl : k = 64 := by omega
                rw [show valF β f s b0 o bx 64 = .pointer (some ⟨b0, o, none⟩) from by kernel_rfl]
                have hp : pre β 8 = true := (show pre β 8 = wantF β 64 from by kernel_rfl).trans hw
                exact q_nil (opa htab ho (t := (.nilCheck (.tmp 66), some 67, some (62, true))) (by kernel_rfl)) (ev_v (j := 63) (p := .load 54 (.tmp 1)) (d := 66) (g := some (62, true)) (v := .pointer (some ⟨b0, o, none⟩)) hk htab (by kernel_rfl) (by decide) (by kernel_rfl) ((show wantF β 63 = pre β 8 from by kernel_rfl).trans hp))
              · obtain rfl : k = 65 := by omega
                rw [show valF β f s b0 o bx 65 = .pointer (some ⟨b0, o + 5, none⟩) from by kernel_rfl]
                have hp : pre β 8 = true := (show pre β 8 = wantF β 65 from by kernel_rfl).trans hw
                exact q_field5 (opa htab ho (t := (.fieldAddr 45 (.tmp 67) 5, some 68, some (62, true))) (by kernel_rfl)) (ev_v (j := 64) (p := .nilCheck (.tmp 66)) (d := 67) (g := some (62, true)) (v := .pointer (some ⟨b0, o, none⟩)) hk htab (by kernel_rfl) (by decide) (by kernel_rfl) ((show wantF β 64 = pre β 8 from by kernel_rfl).trans hp))
      · by_cases q8 : k < 73
        · by_cases q10 : k < 69
          · by_cases q12 : k < 67
            · obtain rfl : k = 66 := by omega
              rw [show valF β f s b0 o bx 66 = .slice s.qi f.code.length s.ci from by kernel_rfl]
              have hp : pre β 8 = true := (show pre β 8 = wantF β 66 from by kernel_rfl).trans hw
              exact q_loadIN (opa htab ho (t := (.load 39 (.tmp 68), some 69, some (62, true))) (by kernel_rfl)) (ev_v (j := 65) (p := .fieldAddr 45 (.tmp 67) 5) (d := 68) (g := some (62, true)) (v := .pointer (some ⟨b0, o + 5, none⟩)) hk htab (by kernel_rfl) (by decide) (by kernel_rfl) ((show wantF β 65 = pre β 8 from by kernel_rfl).trans hp)) (hc w hC).2.2.2.2.2.2.1
            · by_cases q14 : k < 68
              · obtain rfl : k = 67 := by omega
                rw [show valF β f s b0 o bx 67 = .int .i64 ((f.code.length : Nat) : Int) from by kernel_rfl]
                have hp : pre β 8 = true := (show pre β 8 = wantF β 67 from by kernel_rfl).trans hw
                exact q_lenIN (opa htab ho (t := (.call { callee := .builtin .len, args := #[.tmp 69], argTypes := #[39] }, some 70, some (62, true))) (by kernel_rfl)) (ev_v (j := 66) (p := .load 39 (.tmp 68)) (d := 69) (g := some (62, true)) (v := .slice s.qi f.code.length s.ci) hk htab (by kernel_rfl) (by decide) (by kernel_rfl) ((show wantF β 66 = pre β 8 from by kernel_rfl).trans hp))
              · obtain rfl : k = 68 := by omega
                rw [show valF β f s b0 o bx 68 = .bool (β 8) from by kernel_rfl]
                have hp : pre β 8 = true := (show pre β 8 = wantF β 68 from by kernel_rfl).trans hw
                exact (by rw [← hβ8]; exact q_leq (opa htab ho (t := (.binOp .leq 3 (.tmp 70) (.const (.int .i64 16384)) 3, some 71, some (62, true))) (by kernel_rfl)) (ev_v (j := 67) (p := .call { callee := .builtin .len, args := #[.tmp 69], argTypes := #[39] }) (d := 70) (g := some (62, true)) (v := .int .i64 ((f.code.length : Nat) : Int)) hk htab (by kernel_rfl) (by decide) (by kernel_rfl) ((show wantF β 67 = pre β 8 from by kernel_rfl).trans hp)) rfl)
          · by_cases q12 : k < 71
            · by_cases q14 : k < 70
              · obtain rfl : k = 69 := by omega
                rw [show valF β f s b0 o bx 69 = .bool (pre β 9) from by kernel_rfl]
                exact q_pick (opa htab ho (t := (.pick (.tmp 65) (.tmp 71) (.const (.bool false)), some 72, none)) (by kernel_rfl)) (ev_v (j := 62) (p := .move (.tmp 64)) (d := 65) (g := none) (v := .bool (pre β 8)) hk htab (by kernel_rfl) (by decide) (by kernel_rfl) (by kernel_rfl)) (pick_pre (ev_l (j := 68) (p := .binOp .leq 3 (.tmp 70) (.const (.int .i64 16384)) 3) (d := 71) (g := some (62, true)) (v := .bool (β 8)) (b := pre β 8) hk htab (by kernel_rfl) (by decide) (by kernel_rfl) (by kernel_rfl)))
              · obtain rfl : k = 70 := by omega
                rw [show valF β f s b0 o bx 70 = .bool (pre β 9) from by kernel_rfl]
                exact q_move (opa htab ho (t := (.move (.tmp 72), some 73, none)) (by kernel_rfl)) (ev_v (j := 69) (p := .pick (.tmp 65) (.tmp 71) (.const (.bool false))) (d := 72) (g := none) (v := .bool (pre β 9)) hk htab (by kernel_rfl) (by decide) (by kernel_rfl) (by kernel_rfl))
            · by_cases q14 : k < 72
              · obtain rfl : k = 71 := by omega
                rw [show valF β f s b0 o bx 71 = .pointer (some ⟨b0, o, none⟩) from by kernel_rfl]
                have hp : pre β 9 = true := (show pre β 9 = wantF β 71 from by kernel_rfl).trans hw
                exact q_loadPF (opa htab ho (t := (.load 54 (.tmp 1), some 74, some (70, true))) (by kernel_rfl)) (kold hk h1) (hc w hC).1
              · obtain rfl : k = 72 := by omega
                rw [show valF β f s b0 o bx 72 = .pointer (some ⟨b0, o, none⟩) from by kernel_rfl]
                have hp : pre β 9 = true := (show pre β 9 = wantF β 72 from by kernel_rfl).trans hw
                exact q_nil (opa htab ho (t := (.nilCheck (.tmp 74), some 75, some (70, true))) (by kernel_rfl)) (ev_v (j := 71) (p := .load 54 (.tmp 1)) (d := 74) (g := some (70, true)) (v := .pointer (some ⟨b0, o, none⟩)) hk htab (by kernel_rfl) (by decide) (by kernel_rfl) ((show wantF β 71 = pre β 9 from by kernel_rfl).trans hp))
        · by_cases q10 : k < 76
          · by_cases q12 : k < 74
            · obtain rfl : k = 73 := by omega
              rw [show valF β f s b0 o bx 73 = .pointer (some ⟨b0, o + 6, none⟩) from by kernel_rfl]
              have hp : pre β 9 = true := (show pre β 9 = wantF β 73 from by kernel_rfl).trans hw
              exact q_field6 (opa htab ho (t := (.fieldAddr 45 (.tmp 75) 6, some 76, some (70, true))) (by kernel_rfl)) (ev_v (j := 72) (p := .nilCheck (.tmp 74)) (d := 75) (g := some (70, true)) (v := .pointer (some ⟨b0, o, none⟩)) hk htab (by kernel_rfl) (by decide) (by kernel_rfl) ((show wantF β 72 = pre β 9 from by kernel_rfl).trans hp))
            · by_cases q14 : k < 75
              · obtain rfl : k = 74 := by omega
                rw [show valF β f s b0 o bx 74 = .slice s.ql f.lines.length s.cl from by kernel_rfl]
                have hp : pre β 9 = true := (show pre β 9 = wantF β 74 from by kernel_rfl).trans hw
                exact q_loadLI (opa htab ho (t := (.load 40 (.tmp 76), some 77, some (70, true))) (by kernel_rfl)) (ev_v (j := 73) (p := .fieldAddr 45 (.tmp 75) 6) (d := 76) (g := some (70, true)) (v := .pointer (some ⟨b0, o + 6, none⟩)) hk htab (by kernel_rfl) (by decide) (by kernel_rfl) ((show wantF β 73 = pre β 9 from by kernel_rfl).trans hp)) (hc w hC).2.2.2.2.2.2.2.1
              · obtain rfl : k = 75 := by omega
                rw [show valF β f s b0 o bx 75 = .int .i64 ((f.lines.length : Nat) : Int) from by kernel_rfl]
                have hp : pre β 9 = true := (show pre β 9 = wantF β 75 from by kernel_rfl).trans hw
                exact q_lenLI (opa htab ho (t := (.call { callee := .builtin .len, args := #[.tmp 77], argTypes := #[40] }, some 78, some (70, true))) (by kernel_rfl)) (ev_v (j := 74) (p := .load 40 (.tmp 76)) (d := 77) (g := some (70, true)) (v := .slice s.ql f.lines.length s.cl) hk htab (by kernel_rfl) (by decide) (by kernel_rfl) ((show wantF β 74 = pre β 9 from by kernel_rfl).trans hp))
          · by_cases q12 : k < 78
            · by_cases q14 : k < 77
              · obtain rfl : k = 76 := by omega
                rw [show valF β f s b0 o bx 76 = .pointer (some ⟨b0, o, none⟩) from by kernel_rfl]
                have hp : pre β 9 = true := (show pre β 9 = wantF β 76 from by kernel_rfl).trans hw
                exact q_loadPF (opa htab ho (t := (.load 54 (.tmp 1), some 79, some (70, true))) (by kernel_rfl)) (kold hk h1) (hc w hC).1
              · obtain rfl : k = 77 := by omega
                rw [show valF β f s b0 o bx 77 = .pointer (some ⟨b0, o, none⟩) from by kernel_rfl]
                have hp : pre β 9 = true := (show pre β 9 = wantF β 77 from by kernel_rfl).trans hw
                exact q_nil (opa htab ho (t := (.nilCheck (.tmp 79), some 80, some (70, true))) (by kernel_rfl)) (ev_v (j := 76) (p := .load 54 (.tmp 1)) (d := 79) (g := some (70, true)) (v := .pointer (some ⟨b0, o, none⟩)) hk htab (by kernel_rfl) (by decide) (by kernel_rfl) ((show wantF β 76 = pre β 9 from by kernel_rfl).trans hp))
            · by_cases q14 : k < 79
              · obtain rfl : k = 78 := by omega
                rw [show valF β f s b0 o bx 78 = .pointer (some ⟨b0, o + 5, none⟩) from by kernel_rfl]
                have hp : pre β 9 = true := (show pre β 9 = wantF β 78 from by kernel_rfl).trans hw
                exact q_field5 (opa htab ho (t := (.fieldAddr 45 (.tmp 80) 5, some 81, some (70, true))) (by kernel_rfl)) (ev_v (j := 77) (p := .nilCheck (.tmp 79)) (d := 80) (g := some (70, true)) (v := .pointer (some ⟨b0, o, none⟩)) hk htab (by kernel_rfl) (by decide) (by kernel_rfl) ((show wantF β 77 = pre β 9 from by kernel_rfl).trans hp))
              · obtain rfl : k = 79 := by omega
                rw [show valF β f s b0 o bx 79 = .slice s.qi f.code.length s.ci from by kernel_rfl]
                have hp : pre β 9 = true := (show pre β 9 = wantF β 79 from by kernel_rfl).trans hw
                exact q_loadIN (opa htab ho (t := (.load 39 (.tmp 81), some 82, some (70, true))) (by kernel_rfl)) (ev_v (j := 78) (p := .fieldAddr 45 (.tmp 80) 5) (d := 81) (g := some (70, true)) (v := .pointer (some ⟨b0, o + 5, none⟩)) hk htab (by kernel_rfl) (by decide) (by kernel_rfl) ((show wantF β 78 = pre β 9 from by kernel_rfl).trans hp)) (hc w hC).2.2.2.2.2.2.1
    · by_cases q6 : k < 93
      · by_cases q8 : k < 86
        · by_cases q10 : k < 83
          · by_cases q12 : k < 81
            · obtain rfl : k = 80 := by omega
              rw [show valF β f s b0 o bx 80 = .int .i64 ((f.code.length : Nat) : Int) from by kernel_rfl]
              have hp : pre β 9 = true := (show pre β 9 = wantF β 80 from by kernel_rfl).trans hw
              exact q_lenIN (opa htab ho (t := (.call { callee := .builtin .len, args := #[.tmp 82], argTypes := #[39] }, some 83, some (70, true))) (by kernel_rfl)) (ev_v (j := 79) (p := .load 39 (.tmp 81)) (d := 82) (g := some (70, true)) (v := .slice s.qi f.code.length s.ci) hk htab (by kernel_rfl) (by decide) (by kernel_rfl) ((show wantF β 79 = pre β 9 from by kernel_rfl).trans hp))
            · by_cases q14 : k < 82
              · obtain rfl : k = 81 := by omega
                rw [show valF β f s b0 o bx 81 = .bool (β 9) from by kernel_rfl]
                have hp : pre β 9 = true := (show pre β 9 = wantF β 81 from by kernel_rfl).trans hw
                exact (by rw [← hβ9]; exact q_eql (opa htab ho (t := (.binOp .eql 3 (.tmp 78) (.tmp 83) 3, some 84, some (70, true))) (by kernel_rfl)) (ev_v (j := 75) (p := .call { callee := .builtin .len, args := #[.tmp 77], argTypes := #[40] }) (d := 78) (g := some (70, true)) (v := .int .i64 ((f.lines.length : Nat) : Int)) hk htab (by kernel_rfl) (by decide) (by kernel_rfl) ((show wantF β 75 = pre β 9 from by kernel_rfl).trans hp)) (ev_v (j := 80) (p := .call { callee := .builtin .len, args := #[.tmp 82], argTypes := #[39] }) (d := 83) (g := some (70, true)) (v := .int .i64 ((f.code.length : Nat) : Int)) hk htab (by kernel_rfl) (by decide) (by kernel_rfl) ((show wantF β 80 = pre β 9 from by kernel_rfl).trans hp)))
              · obtain rfl : k = 82 := by omega
                rw [show valF β f s b0 o bx 82 = .bool (pre β 10) from by kernel_rfl]
                exact q_pick (opa htab ho (t := (.pick (.tmp 73) (.tmp 84) (.const (.bool false)), some 85, none)) (by kernel_rfl)) (ev_v (j := 70) (p := .move (.tmp 72)) (d := 73) (g := none) (v := .bool (pre β 9)) hk htab (by kernel_rfl) (by decide) (by kernel_rfl) (by kernel_rfl)) (pick_pre (ev_l (j := 81) (p := .binOp .eql 3 (.tmp 78) (.tmp 83) 3) (d := 84) (g := some (70, true)) (v := .bool (β 9)) (b := pre β 9) hk htab (by kernel_rfl) (by decide) (by kernel_rfl) (by kernel_rfl)))
          · by_cases q12 : k < 84
            · obtain rfl : k = 83 := by omega
              rw [show valF β f s b0 o bx 83 = .bool (pre β 10) from by kernel_rfl]
              exact q_move (opa htab ho (t := (.move (.tmp 85), some 86, none)) (by kernel_rfl)) (ev_v (j := 82) (p := .pick (.tmp 73) (.tmp 84) (.const (.bool false))) (d := 85) (g := none) (v := .bool (pre β 10)) hk htab (by kernel_rfl) (by decide) (by kernel_rfl) (by kernel_rfl))
            · by_cases q14 : k < 85
              · obtain rfl : k = 84 := by omega
                rw [show valF β f s b0 o bx 84 = .pointer (some ⟨b0, o, none⟩) from by kernel_rfl]
                have hp : pre β 10 = true := (show pre β 10 = wantF β 84 from by kernel_rfl).trans hw
                exact q_loadPF (opa htab ho (t := (.load 54 (.tmp 1), some 87, some (83, true))) (by kernel_rfl)) (kold hk h1) (hc w hC).1
              · obtain rfl : k = 85 := by omega
                rw [show valF β f s b0 o bx 85 = .pointer (some ⟨b0, o, none⟩) from by kernel_rfl]
                have hp : pre β 10 = true := (show pre β 10 = wantF β 85 from by kernel_rfl).trans hw
                exact q_nil (opa htab ho (t := (.nilCheck (.tmp 87), some 88, some (83, true))) (by kernel_rfl)) (ev_v (j := 84) (p := .load 54 (.tmp 1)) (d := 87) (g := some (83, true)) (v := .pointer (some ⟨b0, o, none⟩)) hk htab (by kernel_rfl) (by decide) (by kernel_rfl) ((show wantF β 84 = pre β 10 from by kernel_rfl).trans hp))
        · by_cases q10 : k < 89
          · by_cases q12 : k < 87
            · obtain rfl : k = 86 := by omega
              rw [show valF β f s b0 o bx 86 = .pointer (some ⟨b0, o + 6, none⟩) from by kernel_rfl]
              have hp : pre β 10 = true := (show pre β 10 = wantF β 86 from by kernel_rfl).trans hw
              exact q_field6 (opa htab ho (t := (.fieldAddr 45 (.tmp 88) 6, some 89, some (83, true))) (by kernel_rfl)) (ev_v (j := 85) (p := .nilCheck (.tmp 87)) (d := 88) (g := some (83, true)) (v := .pointer (some ⟨b0, o, none⟩)) hk htab (by kernel_rfl) (by decide) (by kernel_rfl) ((show wantF β 85 = pre β 10 from by kernel_rfl).trans hp))
            · by_cases q14 : k < 88
              · obtain rfl : k = 87 := by omega
                rw [show valF β f s b0 o bx 87 = .slice s.ql f.lines.length s.cl from by kernel_rfl]
                have hp : pre β 10 = true := (show pre β 10 = wantF β 87 from by kernel_rfl).trans hw
                exact q_loadLI (opa htab ho (t := (.load 40 (.tmp 89), some 90, some (83, true))) (by kernel_rfl)) (ev_v (j := 86) (p := .fieldAddr 45 (.tmp 88) 6) (d := 89) (g := some (83, true)) (v := .pointer (some ⟨b0, o + 6, none⟩)) hk htab (by kernel_rfl) (by decide) (by kernel_rfl) ((show wantF β 86 = pre β 10 from by kernel_rfl).trans hp)) (hc w hC).2.2.2.2.2.2.2.1
              · obtain rfl : k = 88 := by omega
                rw [show valF β f s b0 o bx 88 = .bool (β 10) from by kernel_rfl]
                have hp : pre β 10 = true := (show pre β 10 = wantF β 88 from by kernel_rfl).trans hw
                exact q_callL (opa htab ho (t := (.call { callee := .value (.func 43), args := #[.tmp 90, .func 44], argTypes := #[40, 108] }, some 91, some (83, true))) (by kernel_rfl)) (ev_v (j := 87) (p := .load 40 (.tmp 89)) (d := 90) (g := some (83, true)) (v := .slice s.ql f.lines.length s.cl) hk htab (by kernel_rfl) (by decide) (by kernel_rfl) ((show wantF β 87 = pre β 10 from by kernel_rfl).trans hp)) (hcall10 hp w hC)
          · by_cases q12 : k < 91
            · by_cases q14 : k < 90
              · obtain rfl : k = 89 := by omega
                rw [show valF β f s b0 o bx 89 = .bool (pre β 11) from by kernel_rfl]
                exact q_pick (opa htab ho (t := (.pick (.tmp 86) (.tmp 91) (.const (.bool false)), some 92, none)) (by kernel_rfl)) (ev_v (j := 83) (p := .move (.tmp 85)) (d := 86) (g := none) (v := .bool (pre β 10)) hk htab (by kernel_rfl) (by decide) (by kernel_rfl) (by kernel_rfl)) (pick_pre (ev_l (j := 88) (p := .call { callee := .value (.func 43), args := #[.tmp 90, .func 44], argTypes := #[40, 108] }) (d := 91) (g := some (83, true)) (v := .bool (β 10)) (b := pre β 10) hk htab (by kernel_rfl) (by decide) (by kernel_rfl) (by kernel_rfl)))
              · obtain rfl : k = 90 := by omega
                rw [show valF β f s b0 o bx 90 = .bool (pre β 11) from by kernel_rfl]
                exact q_move (opa htab ho (t := (.move (.tmp 92), some 93, none)) (by kernel_rfl)) (ev_v (j := 89) (p := .pick (.tmp 86) (.tmp 91) (.const (.bool false))) (d := 92) (g := none) (v := .bool (pre β 11)) hk htab (by kernel_rfl) (by decide) (by kernel_rfl) (by kernel_rfl))
            · by_cases q14 : k < 92
              · obtain rfl : k = 91 := by omega
                rw [show valF β f s b0 o bx 91 = .pointer (some ⟨b0, o, none⟩) from by kernel_rfl]
                have hp : pre β 11 = true := (show pre β 11 = wantF β 91 from by kernel_rfl).trans hw
                exact q_loadPF (opa htab ho (t := (.load 54 (.tmp 1), some 94, some (90, true))) (by kernel_rfl)) (kold hk h1) (hc w hC).1
              · obtain rfl : k = 92 := by omega
                rw [show valF β f s b0 o bx 92 = .pointer (some ⟨b0, o, none⟩) from by kernel_rfl]
                have hp : pre β 11 = true := (show pre β 11 = wantF β 92 from by kernel_rfl).trans hw
                exact q_nil (opa htab ho (t := (.nilCheck (.tmp 94), some 95, some (90, true))) (by kernel_rfl)) (ev_v (j := 91) (p := .load 54 (.tmp 1)) (d := 94) (g := some (90, true)) (v := .pointer (some ⟨b0, o, none⟩)) hk htab (by kernel_rfl) (by decide) (by kernel_rfl) ((show wantF β 91 = pre β 11 from by kernel_rfl).trans hp))
      · by_cases q8 : k < 100
        · by_cases q10 : k < 96
          · by_cases q12 : k < 94
            · obtain rfl : k = 93 := by omega
              rw [show valF β f s b0 o bx 93 = .pointer (some ⟨b0, o + 7, none⟩) from by kernel_rfl]
              have hp : pre β 11 = true := (show pre β 11 = wantF β 93 from by kernel_rfl).trans hw
              exact q_field7 (opa htab ho (t := (.fieldAddr 45 (.tmp 95) 7, some 96, some (90, true))) (by kernel_rfl)) (ev_v (j := 92) (p := .nilCheck (.tmp 94)) (d := 95) (g := some (90, true)) (v := .pointer (some ⟨b0, o, none⟩)) hk htab (by kernel_rfl) (by decide) (by kernel_rfl) ((show wantF β 92 = pre β 11 from by kernel_rfl).trans hp))
            · by_cases q14 : k < 95
              · obtain rfl : k = 94 := by omega
                rw [show valF β f s b0 o bx 94 = .slice s.qh f.hs.length s.ch from by kernel_rfl]
                have hp : pre β 11 = true := (show pre β 11 = wantF β 94 from by kernel_rfl).trans hw
                exact q_loadHN (opa htab ho (t := (.load 43 (.tmp 96), some 97, some (90, true))) (by kernel_rfl)) (ev_v (j := 93) (p := .fieldAddr 45 (.tmp 95) 7) (d := 96) (g := some (90, true)) (v := .pointer (some ⟨b0, o + 7, none⟩)) hk htab (by kernel_rfl) (by decide) (by kernel_rfl) ((show wantF β 93 = pre β 11 from by kernel_rfl).trans hp)) (hc w hC).2.2.2.2.2.2.2.2
              · obtain rfl : k = 95 := by omega
                rw [show valF β f s b0 o bx 95 = .int .i64 ((f.hs.length : Nat) : Int) from by kernel_rfl]
                have hp : pre β 11 = true := (show pre β 11 = wantF β 95 from by kernel_rfl).trans hw
                exact q_lenHN (opa htab ho (t := (.call { callee := .builtin .len, args := #[.tmp 97], argTypes := #[43] }, some 98, some (90, true))) (by kernel_rfl)) (ev_v (j := 94) (p := .load 43 (.tmp 96)) (d := 97) (g := some (90, true)) (v := .slice s.qh f.hs.length s.ch) hk htab (by kernel_rfl) (by decide) (by kernel_rfl) ((show wantF β 94 = pre β 11 from by kernel_rfl).trans hp))
          · by_cases q12 : k < 98
            · by_cases q14 : k < 97
              · obtain rfl : k = 96 := by omega
                rw [show valF β f s b0 o bx 96 = .bool (β 11) from by kernel_rfl]
                have hp : pre β 11 = true := (show pre β 11 = wantF β 96 from by kernel_rfl).trans hw
                exact (by rw [← hβ11]; exact q_leq (opa htab ho (t := (.binOp .leq 3 (.tmp 98) (.const (.int .i64 16384)) 3, some 99, some (90, true))) (by kernel_rfl)) (ev_v (j := 95) (p := .call { callee := .builtin .len, args := #[.tmp 97], argTypes := #[43] }) (d := 98) (g := some (90, true)) (v := .int .i64 ((f.hs.length : Nat) : Int)) hk htab (by kernel_rfl) (by decide) (by kernel_rfl) ((show wantF β 95 = pre β 11 from by kernel_rfl).trans hp)) rfl)
              · obtain rfl : k = 97 := by omega
                rw [show valF β f s b0 o bx 97 = .bool (pre β 12) from by kernel_rfl]
                exact q_pick (opa htab ho (t := (.pick (.tmp 93) (.tmp 99) (.const (.bool false)), some 100, none)) (by kernel_rfl)) (ev_v (j := 90) (p := .move (.tmp 92)) (d := 93) (g := none) (v := .bool (pre β 11)) hk htab (by kernel_rfl) (by decide) (by kernel_rfl) (by kernel_rfl)) (pick_pre (ev_l (j := 96) (p := .binOp .leq 3 (.tmp 98) (.const (.int .i64 16384)) 3) (d := 99) (g := some (90, true)) (v := .bool (β 11)) (b := pre β 11) hk htab (by kernel_rfl) (by decide) (by kernel_rfl) (by kernel_rfl)))
            · by_cases q14 : k < 99
              · obtain rfl : k = 98 := by omega
                rw [show valF β f s b0 o bx 98 = .bool (pre β 12) from by kernel_rfl]
                exact q_move (opa htab ho (t := (.move (.tmp 100), some 101, none)) (by kernel_rfl)) (ev_v (j := 97) (p := .pick (.tmp 93) (.tmp 99) (.const (.bool false))) (d := 100) (g := none) (v := .bool (pre β 12)) hk htab (by kernel_rfl) (by decide) (by kernel_rfl) (by kernel_rfl))
              · obtain rfl : k = 99 := by omega
                rw [show valF β f s b0 o bx 99 = .pointer (some ⟨b0, o, none⟩) from by kernel_rfl]
                have hp : pre β 12 = true := (show pre β 12 = wantF β 99 from by kernel_rfl).trans hw
                exact q_loadPF (opa htab ho (t := (.load 54 (.tmp 1), some 102, some (98, true))) (by kernel_rfl)) (kold hk h1) (hc w hC).1
        · by_cases q10 : k < 103
          · by_cases q12 : k < 101
            · obtain rfl : k = 100 := by omega
              rw [show valF β f s b0 o bx 100 = .pointer (some ⟨b0, o, none⟩) from by kernel_rfl]
              have hp : pre β 12 = true := (show pre β 12 = wantF β 100 from by kernel_rfl).trans hw
              exact q_nil (opa htab ho (t := (.nilCheck (.tmp 102), some 103, some (98, true))) (by kernel_rfl)) (ev_v (j := 99) (p := .load 54 (.tmp 1)) (d := 102) (g := some (98, true)) (v := .pointer (some ⟨b0, o, none⟩)) hk htab (by kernel_rfl) (by decide) (by kernel_rfl) ((show wantF β 99 = pre β 12 from by kernel_rfl).trans hp))
            · by_cases q14 : k < 102
              · obtain rfl : k = 101 := by omega
                rw [show valF β f s b0 o bx 101 = .pointer (some ⟨b0, o + 7, none⟩) from by kernel_rfl]
                have hp : pre β 12 = true := (show pre β 12 = wantF β 101 from by kernel_rfl).trans hw
                exact q_field7 (opa htab ho (t := (.fieldAddr 45 (.tmp 103) 7, some 104, some (98, true))) (by kernel_rfl)) (ev_v (j := 100) (p := .nilCheck (.tmp 102)) (d := 103) (g := some (98, true)) (v := .pointer (some ⟨b0, o, none⟩)) hk htab (by kernel_rfl) (by decide) (by kernel_rfl) ((show wantF β 100 = pre β 12 from by kernel_rfl).trans hp))
              · obtain rfl : k = 102 := by omega
                rw [show valF β f s b0 o bx 102 = .slice s.qh f.hs.length s.ch from by kernel_rfl]
                have hp : pre β 12 = true := (show pre β 12 = wantF β 102 from by kernel_rfl).trans hw
                exact q_loadHN (opa htab ho (t := (.load 43 (.tmp 104), some 105, some (98, true))) (by kernel_rfl)) (ev_v (j := 101) (p := .fieldAddr 45 (.tmp 103) 7) (d := 104) (g := some (98, true)) (v := .pointer (some ⟨b0, o + 7, none⟩)) hk htab (by kernel_rfl) (by decide) (by kernel_rfl) ((show wantF β 101 = pre β 12 from by kernel_rfl).trans hp)) (hc w hC).2.2.2.2.2.2.2.2
          · by_cases q12 : k < 105
            · by_cases q14 : k < 104
              · obtain rfl : k = 103 := by omega
                rw [show valF β f s b0 o bx 103 = .func (.func 46) #[] #[.pointer (some ⟨bx, 0, none⟩)] from by kernel_rfl]
                have hp : pre β 12 = true := (show pre β 12 = wantF β 103 from by kernel_rfl).trans hw
                exact q_func (opa htab ho (t := (.makeFunc (.func 46) #[] #[.tmp 1], some 106, some (98, true))) (by kernel_rfl)) (kold hk h1)
              · obtain rfl : k = 104 := by omega
                rw [show valF β f s b0 o bx 104 = .bool (β 12) from by kernel_rfl]
                have hp : pre β 12 = true := (show pre β 12 = wantF β 104 from by kernel_rfl).trans hw
                exact q_callH (opa htab ho (t := (.call { callee := .value (.func 45), args := #[.tmp 105, .tmp 106], argTypes := #[43, 111] }, some 107, some (98, true))) (by kernel_rfl)) (ev_v (j := 102) (p := .load 43 (.tmp 104)) (d := 105) (g := some (98, true)) (v := .slice s.qh f.hs.length s.ch) hk htab (by kernel_rfl) (by decide) (by kernel_rfl) ((show wantF β 102 = pre β 12 from by kernel_rfl).trans hp)) (ev_v (j := 103) (p := .makeFunc (.func 46) #[] #[.tmp 1]) (d := 106) (g := some (98, true)) (v := .func (.func 46) #[] #[.pointer (some ⟨bx, 0, none⟩)]) hk htab (by kernel_rfl) (by decide) (by kernel_rfl) ((show wantF β 103 = pre β 12 from by kernel_rfl).trans hp)) (hcall12 hp w hC)
            · by_cases q14 : k < 106
              · obtain rfl : k = 105 := by omega
                rw [show valF β f s b0 o bx 105 = .bool (pre β 13) from by kernel_rfl]
                exact q_pick (opa htab ho (t := (.pick (.tmp 101) (.tmp 107) (.const (.bool false)), some 108, none)) (by kernel_rfl)) (ev_v (j := 98) (p := .move (.tmp 100)) (d := 101) (g := none) (v := .bool (pre β 12)) hk htab (by kernel_rfl) (by decide) (by kernel_rfl) (by kernel_rfl)) (pick_pre (ev_l (j := 104) (p := .call { callee := .value (.func 45), args := #[.tmp 105, .tmp 106], argTypes := #[43, 111] }) (d := 107) (g := some (98, true)) (v := .bool (β 12)) (b := pre β 12) hk htab (by kernel_rfl) (by decide) (by kernel_rfl) (by kernel_rfl)))
              · obtain rfl : k = 106 := by omega
                rw [show valF β f s b0 o bx 106 = .bool (pre β 13) from by kernel_rfl]
                exact q_assign (opa htab ho (t := (.assign (.tmp 108), some 2, none)) (by kernel_rfl)) (ev_v (j := 105) (p := .pick (.tmp 101) (.tmp 107) (.const (.bool false))) (d := 108) (g := none) (v := .bool (pre β 13)) hk htab (by kernel_rfl) (by decide) (by kernel_rfl) (by kernel_rfl))

end Go.Proofs.YtnekcomkochmjaaGreatDoor
