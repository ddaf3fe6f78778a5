/- The program's head: its guards. -/
import Derived.Test.YtnekcomkochmjaaGreatDoorVfPHeadS
namespace Go.Proofs.YtnekcomkochmjaaGreatDoor
set_option linter.unusedVariables false
set_option linter.unusedSimpArgs false
open Go.RowKit

theorem opd {ops : Array Oper} {k : Nat} {x : Oper} {t : Op × Option Tmp × Option (Nat × Bool)} (htab : ops.toList.map tri = opT) (ho : ops[k]? = some x) (ht : opT[k]? = some t) : x.guard = t.2.2 := by
  have h1 := opg htab ho
  rw [ht] at h1
  have := Option.some.inj h1
  rw [this]

theorem at_of {ops : Array Oper} {j d : Nat} {p : Op} {g : Option (Nat × Bool)} (htab : ops.toList.map tri = opT) (hj : opT[j]? = some (p, some d, g)) : ∃ x d, ops[j]? = some x ∧ x.dst = some d := by
  have h1 : (ops.toList.map tri)[j]? = some (p, some d, g) := by rw [htab]; exact hj
  rw [List.getElem?_map] at h1
  obtain ⟨x, hx, e⟩ := Option.map_eq_some_iff.1 h1
  exact ⟨x, d, by simpa using hx, congrArg (fun t => t.2.1) e⟩

theorem ops_lt {ops : Array Oper} {k : Nat} {x : Oper} (htab : ops.toList.map tri = opT) (ho : ops[k]? = some x) : k < 107 := by
  have h1 := (Array.getElem?_eq_some_iff.1 ho).1
  have h2 := congrArg List.length htab
  simp at h2
  have h3 : opT.length = 107 := rfl
  omega

theorem ops_dst {ops : Array Oper} {k : Nat} {x : Oper} (htab : ops.toList.map tri = opT) (ho : ops[k]? = some x) : dstL.getD k none = x.dst := by
  rw [← dst_ok, List.getD_eq_getElem?_getD, List.getElem?_map, opg htab ho]
  rfl

set_option maxRecDepth 20000 in
set_option maxHeartbeats 8000000 in
theorem head_guards {ops : Array Oper} {β : Nat → Bool} {f : Fm} {s : Fs} {b0 o bx : Nat} (htab : ops.toList.map tri = opT) :
    ∀ (k : Nat) (x : Oper), ops[k]? = some x → match x.guard with | none => wantF β k = true | some (j, b) => j < k ∧ (∃ y d, ops[j]? = some y ∧ y.dst = some d) ∧ (wantF β k = true ↔ left2 (wantF β) (valF β f s b0 o bx) j = .bool b) := by
  intro k x ho
  have hkl := ops_lt htab ho
  by_cases q2 : k < 53
  · by_cases q4 : k < 26
    · by_cases q6 : k < 13
      · by_cases q8 : k < 6
        · by_cases q10 : k < 3
          · by_cases q12 : k < 1
            · obtain rfl : k = 0 := by omega
              rw [opd htab ho (t := (.load 54 (.tmp 1), some 3, none)) (by kernel_rfl)]
              exact (show wantF β 0 = true from by kernel_rfl)
            · by_cases q14 : k < 2
              · obtain rfl : k = 1 := by omega
                rw [opd htab ho (t := (.nilCheck (.tmp 3), some 4, none)) (by kernel_rfl)]
                exact (show wantF β 1 = true from by kernel_rfl)
              · obtain rfl : k = 2 := by omega
                rw [opd htab ho (t := (.fieldAddr 45 (.tmp 4) 0, some 5, none)) (by kernel_rfl)]
                exact (show wantF β 2 = true from by kernel_rfl)
          · by_cases q12 : k < 4
            · obtain rfl : k = 3 := by omega
              rw [opd htab ho (t := (.load 9 (.tmp 5), some 6, none)) (by kernel_rfl)]
              exact (show wantF β 3 = true from by kernel_rfl)
            · by_cases q14 : k < 5
              · obtain rfl : k = 4 := by omega
                rw [opd htab ho (t := (.call { callee := .builtin .len, args := #[.tmp 6], argTypes := #[9] }, some 7, none)) (by kernel_rfl)]
                exact (show wantF β 4 = true from by kernel_rfl)
              · obtain rfl : k = 5 := by omega
                rw [opd htab ho (t := (.binOp .leq 3 (.tmp 7) (.const (.int .i64 4096)) 3, some 8, none)) (by kernel_rfl)]
                exact (show wantF β 5 = true from by kernel_rfl)
        · by_cases q10 : k < 9
          · by_cases q12 : k < 7
            · obtain rfl : k = 6 := by omega
              rw [opd htab ho (t := (.move (.tmp 8), some 9, none)) (by kernel_rfl)]
              exact (show wantF β 6 = true from by kernel_rfl)
            · by_cases q14 : k < 8
              · obtain rfl : k = 7 := by omega
                rw [opd htab ho (t := (.load 54 (.tmp 1), some 10, some (6, true))) (by kernel_rfl)]
                exact ⟨by decide, at_of htab (p := .move (.tmp 8)) (d := 9) (g := none) (by kernel_rfl), by rw [show wantF β 7 = pre β 1 from by kernel_rfl, show left2 (wantF β) (valF β f s b0 o bx) 6 = .bool (pre β 1) from by kernel_rfl]; exact giff _⟩
              · obtain rfl : k = 8 := by omega
                rw [opd htab ho (t := (.nilCheck (.tmp 10), some 11, some (6, true))) (by kernel_rfl)]
                exact ⟨by decide, at_of htab (p := .move (.tmp 8)) (d := 9) (g := none) (by kernel_rfl), by rw [show wantF β 8 = pre β 1 from by kernel_rfl, show left2 (wantF β) (valF β f s b0 o bx) 6 = .bool (pre β 1) from by kernel_rfl]; exact giff _⟩
          · by_cases q12 : k < 11
            · by_cases q14 : k < 10
              · obtain rfl : k = 9 := by omega
                rw [opd htab ho (t := (.fieldAddr 45 (.tmp 11) 1, some 12, some (6, true))) (by kernel_rfl)]
                exact ⟨by decide, at_of htab (p := .move (.tmp 8)) (d := 9) (g := none) (by kernel_rfl), by rw [show wantF β 9 = pre β 1 from by kernel_rfl, show left2 (wantF β) (valF β f s b0 o bx) 6 = .bool (pre β 1) from by kernel_rfl]; exact giff _⟩
              · obtain rfl : k = 10 := by omega
                rw [opd htab ho (t := (.load 3 (.tmp 12), some 13, some (6, true))) (by kernel_rfl)]
                exact ⟨by decide, at_of htab (p := .move (.tmp 8)) (d := 9) (g := none) (by kernel_rfl), by rw [show wantF β 10 = pre β 1 from by kernel_rfl, show left2 (wantF β) (valF β f s b0 o bx) 6 = .bool (pre β 1) from by kernel_rfl]; exact giff _⟩
            · by_cases q14 : k < 12
              · obtain rfl : k = 11 := by omega
                rw [opd htab ho (t := (.binOp .geq 3 (.tmp 13) (.const (.int .i64 0)) 3, some 14, some (6, true))) (by kernel_rfl)]
                exact ⟨by decide, at_of htab (p := .move (.tmp 8)) (d := 9) (g := none) (by kernel_rfl), by rw [show wantF β 11 = pre β 1 from by kernel_rfl, show left2 (wantF β) (valF β f s b0 o bx) 6 = .bool (pre β 1) from by kernel_rfl]; exact giff _⟩
              · obtain rfl : k = 12 := by omega
                rw [opd htab ho (t := (.pick (.tmp 9) (.tmp 14) (.const (.bool false)), some 15, none)) (by kernel_rfl)]
                exact (show wantF β 12 = true from by kernel_rfl)
      · by_cases q8 : k < 19
        · by_cases q10 : k < 16
          · by_cases q12 : k < 14
            · obtain rfl : k = 13 := by omega
              rw [opd htab ho (t := (.move (.tmp 15), some 16, none)) (by kernel_rfl)]
              exact (show wantF β 13 = true from by kernel_rfl)
            · by_cases q14 : k < 15
              · obtain rfl : k = 14 := by omega
                rw [opd htab ho (t := (.load 54 (.tmp 1), some 17, some (13, true))) (by kernel_rfl)]
                exact ⟨by decide, at_of htab (p := .move (.tmp 15)) (d := 16) (g := none) (by kernel_rfl), by rw [show wantF β 14 = pre β 2 from by kernel_rfl, show left2 (wantF β) (valF β f s b0 o bx) 13 = .bool (pre β 2) from by kernel_rfl]; exact giff _⟩
              · obtain rfl : k = 15 := by omega
                rw [opd htab ho (t := (.nilCheck (.tmp 17), some 18, some (13, true))) (by kernel_rfl)]
                exact ⟨by decide, at_of htab (p := .move (.tmp 15)) (d := 16) (g := none) (by kernel_rfl), by rw [show wantF β 15 = pre β 2 from by kernel_rfl, show left2 (wantF β) (valF β f s b0 o bx) 13 = .bool (pre β 2) from by kernel_rfl]; exact giff _⟩
          · by_cases q12 : k < 17
            · obtain rfl : k = 16 := by omega
              rw [opd htab ho (t := (.fieldAddr 45 (.tmp 18) 1, some 19, some (13, true))) (by kernel_rfl)]
              exact ⟨by decide, at_of htab (p := .move (.tmp 15)) (d := 16) (g := none) (by kernel_rfl), by rw [show wantF β 16 = pre β 2 from by kernel_rfl, show left2 (wantF β) (valF β f s b0 o bx) 13 = .bool (pre β 2) from by kernel_rfl]; exact giff _⟩
            · by_cases q14 : k < 18
              · obtain rfl : k = 17 := by omega
                rw [opd htab ho (t := (.load 3 (.tmp 19), some 20, some (13, true))) (by kernel_rfl)]
                exact ⟨by decide, at_of htab (p := .move (.tmp 15)) (d := 16) (g := none) (by kernel_rfl), by rw [show wantF β 17 = pre β 2 from by kernel_rfl, show left2 (wantF β) (valF β f s b0 o bx) 13 = .bool (pre β 2) from by kernel_rfl]; exact giff _⟩
              · obtain rfl : k = 18 := by omega
                rw [opd htab ho (t := (.load 54 (.tmp 1), some 21, some (13, true))) (by kernel_rfl)]
                exact ⟨by decide, at_of htab (p := .move (.tmp 15)) (d := 16) (g := none) (by kernel_rfl), by rw [show wantF β 18 = pre β 2 from by kernel_rfl, show left2 (wantF β) (valF β f s b0 o bx) 13 = .bool (pre β 2) from by kernel_rfl]; exact giff _⟩
        · by_cases q10 : k < 22
          · by_cases q12 : k < 20
            · obtain rfl : k = 19 := by omega
              rw [opd htab ho (t := (.nilCheck (.tmp 21), some 22, some (13, true))) (by kernel_rfl)]
              exact ⟨by decide, at_of htab (p := .move (.tmp 15)) (d := 16) (g := none) (by kernel_rfl), by rw [show wantF β 19 = pre β 2 from by kernel_rfl, show left2 (wantF β) (valF β f s b0 o bx) 13 = .bool (pre β 2) from by kernel_rfl]; exact giff _⟩
            · by_cases q14 : k < 21
              · obtain rfl : k = 20 := by omega
                rw [opd htab ho (t := (.fieldAddr 45 (.tmp 22) 2, some 23, some (13, true))) (by kernel_rfl)]
                exact ⟨by decide, at_of htab (p := .move (.tmp 15)) (d := 16) (g := none) (by kernel_rfl), by rw [show wantF β 20 = pre β 2 from by kernel_rfl, show left2 (wantF β) (valF β f s b0 o bx) 13 = .bool (pre β 2) from by kernel_rfl]; exact giff _⟩
              · obtain rfl : k = 21 := by omega
                rw [opd htab ho (t := (.load 3 (.tmp 23), some 24, some (13, true))) (by kernel_rfl)]
                exact ⟨by decide, at_of htab (p := .move (.tmp 15)) (d := 16) (g := none) (by kernel_rfl), by rw [show wantF β 21 = pre β 2 from by kernel_rfl, show left2 (wantF β) (valF β f s b0 o bx) 13 = .bool (pre β 2) from by kernel_rfl]; exact giff _⟩
          · by_cases q12 : k < 24
            · by_cases q14 : k < 23
              · obtain rfl : k = 22 := by omega
                rw [opd htab ho (t := (.binOp .leq 3 (.tmp 20) (.tmp 24) 3, some 25, some (13, true))) (by kernel_rfl)]
                exact ⟨by decide, at_of htab (p := .move (.tmp 15)) (d := 16) (g := none) (by kernel_rfl), by rw [show wantF β 22 = pre β 2 from by kernel_rfl, show left2 (wantF β) (valF β f s b0 o bx) 13 = .bool (pre β 2) from by kernel_rfl]; exact giff _⟩
              · obtain rfl : k = 23 := by omega
                rw [opd htab ho (t := (.pick (.tmp 16) (.tmp 25) (.const (.bool false)), some 26, none)) (by kernel_rfl)]
                exact (show wantF β 23 = true from by kernel_rfl)
            · by_cases q14 : k < 25
              · obtain rfl : k = 24 := by omega
                rw [opd htab ho (t := (.move (.tmp 26), some 27, none)) (by kernel_rfl)]
                exact (show wantF β 24 = true from by kernel_rfl)
              · obtain rfl : k = 25 := by omega
                rw [opd htab ho (t := (.load 54 (.tmp 1), some 28, some (24, true))) (by kernel_rfl)]
                exact ⟨by decide, at_of htab (p := .move (.tmp 26)) (d := 27) (g := none) (by kernel_rfl), by rw [show wantF β 25 = pre β 3 from by kernel_rfl, show left2 (wantF β) (valF β f s b0 o bx) 24 = .bool (pre β 3) from by kernel_rfl]; exact giff _⟩
    · by_cases q6 : k < 39
      · by_cases q8 : k < 32
        · by_cases q10 : k < 29
          · by_cases q12 : k < 27
            · obtain rfl : k = 26 := by omega
              rw [opd htab ho (t := (.nilCheck (.tmp 28), some 29, some (24, true))) (by kernel_rfl)]
              exact ⟨by decide, at_of htab (p := .move (.tmp 26)) (d := 27) (g := none) (by kernel_rfl), by rw [show wantF β 26 = pre β 3 from by kernel_rfl, show left2 (wantF β) (valF β f s b0 o bx) 24 = .bool (pre β 3) from by kernel_rfl]; exact giff _⟩
            · by_cases q14 : k < 28
              · obtain rfl : k = 27 := by omega
                rw [opd htab ho (t := (.fieldAddr 45 (.tmp 29) 2, some 30, some (24, true))) (by kernel_rfl)]
                exact ⟨by decide, at_of htab (p := .move (.tmp 26)) (d := 27) (g := none) (by kernel_rfl), by rw [show wantF β 27 = pre β 3 from by kernel_rfl, show left2 (wantF β) (valF β f s b0 o bx) 24 = .bool (pre β 3) from by kernel_rfl]; exact giff _⟩
              · obtain rfl : k = 28 := by omega
                rw [opd htab ho (t := (.load 3 (.tmp 30), some 31, some (24, true))) (by kernel_rfl)]
                exact ⟨by decide, at_of htab (p := .move (.tmp 26)) (d := 27) (g := none) (by kernel_rfl), by rw [show wantF β 28 = pre β 3 from by kernel_rfl, show left2 (wantF β) (valF β f s b0 o bx) 24 = .bool (pre β 3) from by kernel_rfl]; exact giff _⟩
          · by_cases q12 : k < 30
            · obtain rfl : k = 29 := by omega
              rw [opd htab ho (t := (.binOp .leq 3 (.tmp 31) (.const (.int .i64 64)) 3, some 32, some (24, true))) (by kernel_rfl)]
              exact ⟨by decide, at_of htab (p := .move (.tmp 26)) (d := 27) (g := none) (by kernel_rfl), by rw [show wantF β 29 = pre β 3 from by kernel_rfl, show left2 (wantF β) (valF β f s b0 o bx) 24 = .bool (pre β 3) from by kernel_rfl]; exact giff _⟩
            · by_cases q14 : k < 31
              · obtain rfl : k = 30 := by omega
                rw [opd htab ho (t := (.pick (.tmp 27) (.tmp 32) (.const (.bool false)), some 33, none)) (by kernel_rfl)]
                exact (show wantF β 30 = true from by kernel_rfl)
              · obtain rfl : k = 31 := by omega
                rw [opd htab ho (t := (.move (.tmp 33), some 34, none)) (by kernel_rfl)]
                exact (show wantF β 31 = true from by kernel_rfl)
        · by_cases q10 : k < 35
          · by_cases q12 : k < 33
            · obtain rfl : k = 32 := by omega
              rw [opd htab ho (t := (.load 54 (.tmp 1), some 35, some (31, true))) (by kernel_rfl)]
              exact ⟨by decide, at_of htab (p := .move (.tmp 33)) (d := 34) (g := none) (by kernel_rfl), by rw [show wantF β 32 = pre β 4 from by kernel_rfl, show left2 (wantF β) (valF β f s b0 o bx) 31 = .bool (pre β 4) from by kernel_rfl]; exact giff _⟩
            · by_cases q14 : k < 34
              · obtain rfl : k = 33 := by omega
                rw [opd htab ho (t := (.nilCheck (.tmp 35), some 36, some (31, true))) (by kernel_rfl)]
                exact ⟨by decide, at_of htab (p := .move (.tmp 33)) (d := 34) (g := none) (by kernel_rfl), by rw [show wantF β 33 = pre β 4 from by kernel_rfl, show left2 (wantF β) (valF β f s b0 o bx) 31 = .bool (pre β 4) from by kernel_rfl]; exact giff _⟩
              · obtain rfl : k = 34 := by omega
                rw [opd htab ho (t := (.fieldAddr 45 (.tmp 36) 3, some 37, some (31, true))) (by kernel_rfl)]
                exact ⟨by decide, at_of htab (p := .move (.tmp 33)) (d := 34) (g := none) (by kernel_rfl), by rw [show wantF β 34 = pre β 4 from by kernel_rfl, show left2 (wantF β) (valF β f s b0 o bx) 31 = .bool (pre β 4) from by kernel_rfl]; exact giff _⟩
          · by_cases q12 : k < 37
            · by_cases q14 : k < 36
              · obtain rfl : k = 35 := by omega
                rw [opd htab ho (t := (.load 41 (.tmp 37), some 38, some (31, true))) (by kernel_rfl)]
                exact ⟨by decide, at_of htab (p := .move (.tmp 33)) (d := 34) (g := none) (by kernel_rfl), by rw [show wantF β 35 = pre β 4 from by kernel_rfl, show left2 (wantF β) (valF β f s b0 o bx) 31 = .bool (pre β 4) from by kernel_rfl]; exact giff _⟩
              · obtain rfl : k = 36 := by omega
                rw [opd htab ho (t := (.call { callee := .builtin .len, args := #[.tmp 38], argTypes := #[41] }, some 39, some (31, true))) (by kernel_rfl)]
                exact ⟨by decide, at_of htab (p := .move (.tmp 33)) (d := 34) (g := none) (by kernel_rfl), by rw [show wantF β 36 = pre β 4 from by kernel_rfl, show left2 (wantF β) (valF β f s b0 o bx) 31 = .bool (pre β 4) from by kernel_rfl]; exact giff _⟩
            · by_cases q14 : k < 38
              · obtain rfl : k = 37 := by omega
                rw [opd htab ho (t := (.binOp .leq 3 (.tmp 39) (.const (.int .i64 4096)) 3, some 40, some (31, true))) (by kernel_rfl)]
                exact ⟨by decide, at_of htab (p := .move (.tmp 33)) (d := 34) (g := none) (by kernel_rfl), by rw [show wantF β 37 = pre β 4 from by kernel_rfl, show left2 (wantF β) (valF β f s b0 o bx) 31 = .bool (pre β 4) from by kernel_rfl]; exact giff _⟩
              · obtain rfl : k = 38 := by omega
                rw [opd htab ho (t := (.pick (.tmp 34) (.tmp 40) (.const (.bool false)), some 41, none)) (by kernel_rfl)]
                exact (show wantF β 38 = true from by kernel_rfl)
      · by_cases q8 : k < 46
        · by_cases q10 : k < 42
          · by_cases q12 : k < 40
            · obtain rfl : k = 39 := by omega
              rw [opd htab ho (t := (.move (.tmp 41), some 42, none)) (by kernel_rfl)]
              exact (show wantF β 39 = true from by kernel_rfl)
            · by_cases q14 : k < 41
              · obtain rfl : k = 40 := by omega
                rw [opd htab ho (t := (.load 54 (.tmp 1), some 43, some (39, true))) (by kernel_rfl)]
                exact ⟨by decide, at_of htab (p := .move (.tmp 41)) (d := 42) (g := none) (by kernel_rfl), by rw [show wantF β 40 = pre β 5 from by kernel_rfl, show left2 (wantF β) (valF β f s b0 o bx) 39 = .bool (pre β 5) from by kernel_rfl]; exact giff _⟩
              · obtain rfl : k = 41 := by omega
                rw [opd htab ho (t := (.nilCheck (.tmp 43), some 44, some (39, true))) (by kernel_rfl)]
                exact ⟨by decide, at_of htab (p := .move (.tmp 41)) (d := 42) (g := none) (by kernel_rfl), by rw [show wantF β 41 = pre β 5 from by kernel_rfl, show left2 (wantF β) (valF β f s b0 o bx) 39 = .bool (pre β 5) from by kernel_rfl]; exact giff _⟩
          · by_cases q12 : k < 44
            · by_cases q14 : k < 43
              · obtain rfl : k = 42 := by omega
                rw [opd htab ho (t := (.fieldAddr 45 (.tmp 44) 4, some 45, some (39, true))) (by kernel_rfl)]
                exact ⟨by decide, at_of htab (p := .move (.tmp 41)) (d := 42) (g := none) (by kernel_rfl), by rw [show wantF β 42 = pre β 5 from by kernel_rfl, show left2 (wantF β) (valF β f s b0 o bx) 39 = .bool (pre β 5) from by kernel_rfl]; exact giff _⟩
              · obtain rfl : k = 43 := by omega
                rw [opd htab ho (t := (.load 42 (.tmp 45), some 46, some (39, true))) (by kernel_rfl)]
                exact ⟨by decide, at_of htab (p := .move (.tmp 41)) (d := 42) (g := none) (by kernel_rfl), by rw [show wantF β 43 = pre β 5 from by kernel_rfl, show left2 (wantF β) (valF β f s b0 o bx) 39 = .bool (pre β 5) from by kernel_rfl]; exact giff _⟩
            · by_cases q14 : k < 45
              · obtain rfl : k = 44 := by omega
                rw [opd htab ho (t := (.call { callee := .builtin .len, args := #[.tmp 46], argTypes := #[42] }, some 47, some (39, true))) (by kernel_rfl)]
                exact ⟨by decide, at_of htab (p := .move (.tmp 41)) (d := 42) (g := none) (by kernel_rfl), by rw [show wantF β 44 = pre β 5 from by kernel_rfl, show left2 (wantF β) (valF β f s b0 o bx) 39 = .bool (pre β 5) from by kernel_rfl]; exact giff _⟩
              · obtain rfl : k = 45 := by omega
                rw [opd htab ho (t := (.binOp .leq 3 (.tmp 47) (.const (.int .i64 16384)) 3, some 48, some (39, true))) (by kernel_rfl)]
                exact ⟨by decide, at_of htab (p := .move (.tmp 41)) (d := 42) (g := none) (by kernel_rfl), by rw [show wantF β 45 = pre β 5 from by kernel_rfl, show left2 (wantF β) (valF β f s b0 o bx) 39 = .bool (pre β 5) from by kernel_rfl]; exact giff _⟩
        · by_cases q10 : k < 49
          · by_cases q12 : k < 47
            · obtain rfl : k = 46 := by omega
              rw [opd htab ho (t := (.pick (.tmp 42) (.tmp 48) (.const (.bool false)), some 49, none)) (by kernel_rfl)]
              exact (show wantF β 46 = true from by kernel_rfl)
            · by_cases q14 : k < 48
              · obtain rfl : k = 47 := by omega
                rw [opd htab ho (t := (.move (.tmp 49), some 50, none)) (by kernel_rfl)]
                exact (show wantF β 47 = true from by kernel_rfl)
              · obtain rfl : k = 48 := by omega
                rw [opd htab ho (t := (.load 54 (.tmp 1), some 51, some (47, true))) (by kernel_rfl)]
                exact ⟨by decide, at_of htab (p := .move (.tmp 49)) (d := 50) (g := none) (by kernel_rfl), by rw [show wantF β 48 = pre β 6 from by kernel_rfl, show left2 (wantF β) (valF β f s b0 o bx) 47 = .bool (pre β 6) from by kernel_rfl]; exact giff _⟩
          · by_cases q12 : k < 51
            · by_cases q14 : k < 50
              · obtain rfl : k = 49 := by omega
                rw [opd htab ho (t := (.nilCheck (.tmp 51), some 52, some (47, true))) (by kernel_rfl)]
                exact ⟨by decide, at_of htab (p := .move (.tmp 49)) (d := 50) (g := none) (by kernel_rfl), by rw [show wantF β 49 = pre β 6 from by kernel_rfl, show left2 (wantF β) (valF β f s b0 o bx) 47 = .bool (pre β 6) from by kernel_rfl]; exact giff _⟩
              · obtain rfl : k = 50 := by omega
                rw [opd htab ho (t := (.fieldAddr 45 (.tmp 52) 4, some 53, some (47, true))) (by kernel_rfl)]
                exact ⟨by decide, at_of htab (p := .move (.tmp 49)) (d := 50) (g := none) (by kernel_rfl), by rw [show wantF β 50 = pre β 6 from by kernel_rfl, show left2 (wantF β) (valF β f s b0 o bx) 47 = .bool (pre β 6) from by kernel_rfl]; exact giff _⟩
            · by_cases q14 : k < 52
              · obtain rfl : k = 51 := by omega
                rw [opd htab ho (t := (.load 42 (.tmp 53), some 54, some (47, true))) (by kernel_rfl)]
                exact ⟨by decide, at_of htab (p := .move (.tmp 49)) (d := 50) (g := none) (by kernel_rfl), by rw [show wantF β 51 = pre β 6 from by kernel_rfl, show left2 (wantF β) (valF β f s b0 o bx) 47 = .bool (pre β 6) from by kernel_rfl]; exact giff _⟩
              · obtain rfl : k = 52 := by omega
                rw [opd htab ho (t := (.call { callee := .value (.func 41), args := #[.tmp 54, .func 42], argTypes := #[42, 106] }, some 55, some (47, true))) (by kernel_rfl)]
                exact ⟨by decide, at_of htab (p := .move (.tmp 49)) (d := 50) (g := none) (by kernel_rfl), by rw [show wantF β 52 = pre β 6 from by kernel_rfl, show left2 (wantF β) (valF β f s b0 o bx) 47 = .bool (pre β 6) from by kernel_rfl]; exact giff _⟩
  · by_cases q4 : k < 80
    · by_cases q6 : k < 66
      · by_cases q8 : k < 59
        · by_cases q10 : k < 56
          · by_cases q12 : k < 54
            · obtain rfl : k = 53 := by omega
              rw [opd htab ho (t := (.pick (.tmp 50) (.tmp 55) (.const (.bool false)), some 56, none)) (by kernel_rfl)]
              exact (show wantF β 53 = true from by kernel_rfl)
            · by_cases q14 : k < 55
              · obtain rfl : k = 54 := by omega
                rw [opd htab ho (t := (.move (.tmp 56), some 57, none)) (by kernel_rfl)]
                exact (show wantF β 54 = true from by kernel_rfl)
              · obtain rfl : k = 55 := by omega
                rw [opd htab ho (t := (.load 54 (.tmp 1), some 58, some (54, true))) (by kernel_rfl)]
                exact ⟨by decide, at_of htab (p := .move (.tmp 56)) (d := 57) (g := none) (by kernel_rfl), by rw [show wantF β 55 = pre β 7 from by kernel_rfl, show left2 (wantF β) (valF β f s b0 o bx) 54 = .bool (pre β 7) from by kernel_rfl]; exact giff _⟩
          · by_cases q12 : k < 57
            · obtain rfl : k = 56 := by omega
              rw [opd htab ho (t := (.nilCheck (.tmp 58), some 59, some (54, true))) (by kernel_rfl)]
              exact ⟨by decide, at_of htab (p := .move (.tmp 56)) (d := 57) (g := none) (by kernel_rfl), by rw [show wantF β 56 = pre β 7 from by kernel_rfl, show left2 (wantF β) (valF β f s b0 o bx) 54 = .bool (pre β 7) from by kernel_rfl]; exact giff _⟩
            · by_cases q14 : k < 58
              · obtain rfl : k = 57 := by omega
                rw [opd htab ho (t := (.fieldAddr 45 (.tmp 59) 5, some 60, some (54, true))) (by kernel_rfl)]
                exact ⟨by decide, at_of htab (p := .move (.tmp 56)) (d := 57) (g := none) (by kernel_rfl), by rw [show wantF β 57 = pre β 7 from by kernel_rfl, show left2 (wantF β) (valF β f s b0 o bx) 54 = .bool (pre β 7) from by kernel_rfl]; exact giff _⟩
              · obtain rfl : k = 58 := by omega
                rw [opd htab ho (t := (.load 39 (.tmp 60), some 61, some (54, true))) (by kernel_rfl)]
                exact ⟨by decide, at_of htab (p := .move (.tmp 56)) (d := 57) (g := none) (by kernel_rfl), by rw [show wantF β 58 = pre β 7 from by kernel_rfl, show left2 (wantF β) (valF β f s b0 o bx) 54 = .bool (pre β 7) from by kernel_rfl]; exact giff _⟩
        · by_cases q10 : k < 62
          · by_cases q12 : k < 60
            · obtain rfl : k = 59 := by omega
              rw [opd htab ho (t := (.call { callee := .builtin .len, args := #[.tmp 61], argTypes := #[39] }, some 62, some (54, true))) (by kernel_rfl)]
              exact ⟨by decide, at_of htab (p := .move (.tmp 56)) (d := 57) (g := none) (by kernel_rfl), by rw [show wantF β 59 = pre β 7 from by kernel_rfl, show left2 (wantF β) (valF β f s b0 o bx) 54 = .bool (pre β 7) from by kernel_rfl]; exact giff _⟩
            · by_cases q14 : k < 61
              · obtain rfl : k = 60 := by omega
                rw [opd htab ho (t := (.binOp .geq 3 (.tmp 62) (.const (.int .i64 1)) 3, some 63, some (54, true))) (by kernel_rfl)]
                exact ⟨by decide, at_of htab (p := .move (.tmp 56)) (d := 57) (g := none) (by kernel_rfl), by rw [show wantF β 60 = pre β 7 from by kernel_rfl, show left2 (wantF β) (valF β f s b0 o bx) 54 = .bool (pre β 7) from by kernel_rfl]; exact giff _⟩
              · obtain rfl : k = 61 := by omega
                rw [opd htab ho (t := (.pick (.tmp 57) (.tmp 63) (.const (.bool false)), some 64, none)) (by kernel_rfl)]
                exact (show wantF β 61 = true from by kernel_rfl)
          · by_cases q12 : k < 64
            · by_cases q14 : k < 63
              · obtain rfl : k = 62 := by omega
                rw [opd htab ho (t := (.move (.tmp 64), some 65, none)) (by kernel_rfl)]
                exact (show wantF β 62 = true from by kernel_rfl)
              · obtain rfl : k = 63 := by omega
                rw [opd htab ho (t := (.load 54 (.tmp 1), some 66, some (62, true))) (by kernel_rfl)]
                exact ⟨by decide, at_of htab (p := .move (.tmp 64)) (d := 65) (g := none) (by kernel_rfl), by rw [show wantF β 63 = pre β 8 from by kernel_rfl, show left2 (wantF β) (valF β f s b0 o bx) 62 = .bool (pre β 8) from by kernel_rfl]; exact giff _⟩
            · by_cases q14 : k < 65
              · obtain rfl : k = 64 := by omega
                rw [opd htab ho (t := (.nilCheck (.tmp 66), some 67, some (62, true))) (by kernel_rfl)]
                exact ⟨by decide, at_of htab (p := .move (.tmp 64)) (d := 65) (g := none) (by kernel_rfl), by rw [show wantF β 64 = pre β 8 from by kernel_rfl, show left2 (wantF β) (valF β f s b0 o bx) 62 = .bool (pre β 8) from by kernel_rfl]; exact giff _⟩
              · obtain rfl : k = 65 := by omega
                rw [opd htab ho (t := (.fieldAddr 45 (.tmp 67) 5, some 68, some (62, true))) (by kernel_rfl)]
                exact ⟨by decide, at_of htab (p := .move (.tmp 64)) (d := 65) (g := none) (by kernel_rfl), by rw [show wantF β 65 = pre β 8 from by kernel_rfl, show left2 (wantF β) (valF β f s b0 o bx) 62 = .bool (pre β 8) from by kernel_rfl]; exact giff _⟩
      · by_cases q8 : k < 73
        · by_cases q10 : k < 69
          · by_cases q12 : k < 67
            · obtain rfl : k = 66 := by omega
              rw [opd htab ho (t := (.load 39 (.tmp 68), some 69, some (62, true))) (by kernel_rfl)]
              exact ⟨by decide, at_of htab (p := .move (.tmp 64)) (d := 65) (g := none) (by kernel_rfl), by rw [show wantF β 66 = pre β 8 from by kernel_rfl, show left2 (wantF β) (valF β f s b0 o bx) 62 = .bool (pre β 8) from by kernel_rfl]; exact giff _⟩
            · by_cases q14 : k < 68
              · obtain rfl : k = 67 := by omega
                rw [opd htab ho (t := (.call { callee := .builtin .len, args := #[.tmp 69], argTypes := #[39] }, some 70, some (62, true))) (by kernel_rfl)]
                exact ⟨by decide, at_of htab (p := .move (.tmp 64)) (d := 65) (g := none) (by kernel_rfl), by rw [show wantF β 67 = pre β 8 from by kernel_rfl, show left2 (wantF β) (valF β f s b0 o bx) 62 = .bool (pre β 8) from by kernel_rfl]; exact giff _⟩
              · obtain rfl : k = 68 := by omega
                rw [opd htab ho (t := (.binOp .leq 3 (.tmp 70) (.const (.int .i64 16384)) 3, some 71, some (62, true))) (by kernel_rfl)]
                exact ⟨by decide, at_of htab (p := .move (.tmp 64)) (d := 65) (g := none) (by kernel_rfl), by rw [show wantF β 68 = pre β 8 from by kernel_rfl, show left2 (wantF β) (valF β f s b0 o bx) 62 = .bool (pre β 8) from by kernel_rfl]; exact giff _⟩
          · by_cases q12 : k < 71
            · by_cases q14 : k < 70
              · obtain rfl : k = 69 := by omega
                rw [opd htab ho (t := (.pick (.tmp 65) (.tmp 71) (.const (.bool false)), some 72, none)) (by kernel_rfl)]
                exact (show wantF β 69 = true from by kernel_rfl)
              · obtain rfl : k = 70 := by omega
                rw [opd htab ho (t := (.move (.tmp 72), some 73, none)) (by kernel_rfl)]
                exact (show wantF β 70 = true from by kernel_rfl)
            · by_cases q14 : k < 72
              · obtain rfl : k = 71 := by omega
                rw [opd htab ho (t := (.load 54 (.tmp 1), some 74, some (70, true))) (by kernel_rfl)]
                exact ⟨by decide, at_of htab (p := .move (.tmp 72)) (d := 73) (g := none) (by kernel_rfl), by rw [show wantF β 71 = pre β 9 from by kernel_rfl, show left2 (wantF β) (valF β f s b0 o bx) 70 = .bool (pre β 9) from by kernel_rfl]; exact giff _⟩
              · obtain rfl : k = 72 := by omega
                rw [opd htab ho (t := (.nilCheck (.tmp 74), some 75, some (70, true))) (by kernel_rfl)]
                exact ⟨by decide, at_of htab (p := .move (.tmp 72)) (d := 73) (g := none) (by kernel_rfl), by rw [show wantF β 72 = pre β 9 from by kernel_rfl, show left2 (wantF β) (valF β f s b0 o bx) 70 = .bool (pre β 9) from by kernel_rfl]; exact giff _⟩
        · by_cases q10 : k < 76
          · by_cases q12 : k < 74
            · obtain rfl : k = 73 := by omega
              rw [opd htab ho (t := (.fieldAddr 45 (.tmp 75) 6, some 76, some (70, true))) (by kernel_rfl)]
              exact ⟨by decide, at_of htab (p := .move (.tmp 72)) (d := 73) (g := none) (by kernel_rfl), by rw [show wantF β 73 = pre β 9 from by kernel_rfl, show left2 (wantF β) (valF β f s b0 o bx) 70 = .bool (pre β 9) from by kernel_rfl]; exact giff _⟩
            · by_cases q14 : k < 75
              · obtain rfl : k = 74 := by omega
                rw [opd htab ho (t := (.load 40 (.tmp 76), some 77, some (70, true))) (by kernel_rfl)]
                exact ⟨by decide, at_of htab (p := .move (.tmp 72)) (d := 73) (g := none) (by kernel_rfl), by rw [show wantF β 74 = pre β 9 from by kernel_rfl, show left2 (wantF β) (valF β f s b0 o bx) 70 = .bool (pre β 9) from by kernel_rfl]; exact giff _⟩
              · obtain rfl : k = 75 := by omega
                rw [opd htab ho (t := (.call { callee := .builtin .len, args := #[.tmp 77], argTypes := #[40] }, some 78, some (70, true))) (by kernel_rfl)]
                exact ⟨by decide, at_of htab (p := .move (.tmp 72)) (d := 73) (g := none) (by kernel_rfl), by rw [show wantF β 75 = pre β 9 from by kernel_rfl, show left2 (wantF β) (valF β f s b0 o bx) 70 = .bool (pre β 9) from by kernel_rfl]; exact giff _⟩
          · by_cases q12 : k < 78
            · by_cases q14 : k < 77
              · obtain rfl : k = 76 := by omega
                rw [opd htab ho (t := (.load 54 (.tmp 1), some 79, some (70, true))) (by kernel_rfl)]
                exact ⟨by decide, at_of htab (p := .move (.tmp 72)) (d := 73) (g := none) (by kernel_rfl), by rw [show wantF β 76 = pre β 9 from by kernel_rfl, show left2 (wantF β) (valF β f s b0 o bx) 70 = .bool (pre β 9) from by kernel_rfl]; exact giff _⟩
              · obtain rfl : k = 77 := by omega
                rw [opd htab ho (t := (.nilCheck (.tmp 79), some 80, some (70, true))) (by kernel_rfl)]
                exact ⟨by decide, at_of htab (p := .move (.tmp 72)) (d := 73) (g := none) (by kernel_rfl), by rw [show wantF β 77 = pre β 9 from by kernel_rfl, show left2 (wantF β) (valF β f s b0 o bx) 70 = .bool (pre β 9) from by kernel_rfl]; exact giff _⟩
            · by_cases q14 : k < 79
              · obtain rfl : k = 78 := by omega
                rw [opd htab ho (t := (.fieldAddr 45 (.tmp 80) 5, some 81, some (70, true))) (by kernel_rfl)]
                exact ⟨by decide, at_of htab (p := .move (.tmp 72)) (d := 73) (g := none) (by kernel_rfl), by rw [show wantF β 78 = pre β 9 from by kernel_rfl, show left2 (wantF β) (valF β f s b0 o bx) 70 = .bool (pre β 9) from by kernel_rfl]; exact giff _⟩
              · obtain rfl : k = 79 := by omega
                rw [opd htab ho (t := (.load 39 (.tmp 81), some 82, some (70, true))) (by kernel_rfl)]
                exact ⟨by decide, at_of htab (p := .move (.tmp 72)) (d := 73) (g := none) (by kernel_rfl), by rw [show wantF β 79 = pre β 9 from by kernel_rfl, show left2 (wantF β) (valF β f s b0 o bx) 70 = .bool (pre β 9) from by kernel_rfl]; exact giff _⟩
    · by_cases q6 : k < 93
      · by_cases q8 : k < 86
        · by_cases q10 : k < 83
          · by_cases q12 : k < 81
            · obtain rfl : k = 80 := by omega
              rw [opd htab ho (t := (.call { callee := .builtin .len, args := #[.tmp 82], argTypes := #[39] }, some 83, some (70, true))) (by kernel_rfl)]
              exact ⟨by decide, at_of htab (p := .move (.tmp 72)) (d := 73) (g := none) (by kernel_rfl), by rw [show wantF β 80 = pre β 9 from by kernel_rfl, show left2 (wantF β) (valF β f s b0 o bx) 70 = .bool (pre β 9) from by kernel_rfl]; exact giff _⟩
            · by_cases q14 : k < 82
              · obtain rfl : k = 81 := by omega
                rw [opd htab ho (t := (.binOp .eql 3 (.tmp 78) (.tmp 83) 3, some 84, some (70, true))) (by kernel_rfl)]
                exact ⟨by decide, at_of htab (p := .move (.tmp 72)) (d := 73) (g := none) (by kernel_rfl), by rw [show wantF β 81 = pre β 9 from by kernel_rfl, show left2 (wantF β) (valF β f s b0 o bx) 70 = .bool (pre β 9) from by kernel_rfl]; exact giff _⟩
              · obtain rfl : k = 82 := by omega
                rw [opd htab ho (t := (.pick (.tmp 73) (.tmp 84) (.const (.bool false)), some 85, none)) (by kernel_rfl)]
                exact (show wantF β 82 = true from by kernel_rfl)
          · by_cases q12 : k < 84
            · obtain rfl : k = 83 := by omega
              rw [opd htab ho (t := (.move (.tmp 85), some 86, none)) (by kernel_rfl)]
              exact (show wantF β 83 = true from by kernel_rfl)
            · by_cases q14 : k < 85
              · obtain rfl : k = 84 := by omega
                rw [opd htab ho (t := (.load 54 (.tmp 1), some 87, some (83, true))) (by kernel_rfl)]
                exact ⟨by decide, at_of htab (p := .move (.tmp 85)) (d := 86) (g := none) (by kernel_rfl), by rw [show wantF β 84 = pre β 10 from by kernel_rfl, show left2 (wantF β) (valF β f s b0 o bx) 83 = .bool (pre β 10) from by kernel_rfl]; exact giff _⟩
              · obtain rfl : k = 85 := by omega
                rw [opd htab ho (t := (.nilCheck (.tmp 87), some 88, some (83, true))) (by kernel_rfl)]
                exact ⟨by decide, at_of htab (p := .move (.tmp 85)) (d := 86) (g := none) (by kernel_rfl), by rw [show wantF β 85 = pre β 10 from by kernel_rfl, show left2 (wantF β) (valF β f s b0 o bx) 83 = .bool (pre β 10) from by kernel_rfl]; exact giff _⟩
        · by_cases q10 : k < 89
          · by_cases q12 : k < 87
            · obtain rfl : k = 86 := by omega
              rw [opd htab ho (t := (.fieldAddr 45 (.tmp 88) 6, some 89, some (83, true))) (by kernel_rfl)]
              exact ⟨by decide, at_of htab (p := .move (.tmp 85)) (d := 86) (g := none) (by kernel_rfl), by rw [show wantF β 86 = pre β 10 from by kernel_rfl, show left2 (wantF β) (valF β f s b0 o bx) 83 = .bool (pre β 10) from by kernel_rfl]; exact giff _⟩
            · by_cases q14 : k < 88
              · obtain rfl : k = 87 := by omega
                rw [opd htab ho (t := (.load 40 (.tmp 89), some 90, some (83, true))) (by kernel_rfl)]
                exact ⟨by decide, at_of htab (p := .move (.tmp 85)) (d := 86) (g := none) (by kernel_rfl), by rw [show wantF β 87 = pre β 10 from by kernel_rfl, show left2 (wantF β) (valF β f s b0 o bx) 83 = .bool (pre β 10) from by kernel_rfl]; exact giff _⟩
              · obtain rfl : k = 88 := by omega
                rw [opd htab ho (t := (.call { callee := .value (.func 43), args := #[.tmp 90, .func 44], argTypes := #[40, 108] }, some 91, some (83, true))) (by kernel_rfl)]
                exact ⟨by decide, at_of htab (p := .move (.tmp 85)) (d := 86) (g := none) (by kernel_rfl), by rw [show wantF β 88 = pre β 10 from by kernel_rfl, show left2 (wantF β) (valF β f s b0 o bx) 83 = .bool (pre β 10) from by kernel_rfl]; exact giff _⟩
          · by_cases q12 : k < 91
            · by_cases q14 : k < 90
              · obtain rfl : k = 89 := by omega
                rw [opd htab ho (t := (.pick (.tmp 86) (.tmp 91) (.const (.bool false)), some 92, none)) (by kernel_rfl)]
                exact (show wantF β 89 = true from by kernel_rfl)
              · obtain rfl : k = 90 := by omega
                rw [opd htab ho (t := (.move (.tmp 92), some 93, none)) (by kernel_rfl)]
                exact (show wantF β 90 = true from by kernel_rfl)
            · by_cases q14 : k < 92
              · obtain rfl : k = 91 := by omega
                rw [opd htab ho (t := (.load 54 (.tmp 1), some 94, some (90, true))) (by kernel_rfl)]
                exact ⟨by decide, at_of htab (p := .move (.tmp 92)) (d := 93) (g := none) (by kernel_rfl), by rw [show wantF β 91 = pre β 11 from by kernel_rfl, show left2 (wantF β) (valF β f s b0 o bx) 90 = .bool (pre β 11) from by kernel_rfl]; exact giff _⟩
              · obtain rfl : k = 92 := by omega
                rw [opd htab ho (t := (.nilCheck (.tmp 94), some 95, some (90, true))) (by kernel_rfl)]
                exact ⟨by decide, at_of htab (p := .move (.tmp 92)) (d := 93) (g := none) (by kernel_rfl), by rw [show wantF β 92 = pre β 11 from by kernel_rfl, show left2 (wantF β) (valF β f s b0 o bx) 90 = .bool (pre β 11) from by kernel_rfl]; exact giff _⟩
      · by_cases q8 : k < 100
        · by_cases q10 : k < 96
          · by_cases q12 : k < 94
            · obtain rfl : k = 93 := by omega
              rw [opd htab ho (t := (.fieldAddr 45 (.tmp 95) 7, some 96, some (90, true))) (by kernel_rfl)]
              exact ⟨by decide, at_of htab (p := .move (.tmp 92)) (d := 93) (g := none) (by kernel_rfl), by rw [show wantF β 93 = pre β 11 from by kernel_rfl, show left2 (wantF β) (valF β f s b0 o bx) 90 = .bool (pre β 11) from by kernel_rfl]; exact giff _⟩
            · by_cases q14 : k < 95
              · obtain rfl : k = 94 := by omega
                rw [opd htab ho (t := (.load 43 (.tmp 96), some 97, some (90, true))) (by kernel_rfl)]
                exact ⟨by decide, at_of htab (p := .move (.tmp 92)) (d := 93) (g := none) (by kernel_rfl), by rw [show wantF β 94 = pre β 11 from by kernel_rfl, show left2 (wantF β) (valF β f s b0 o bx) 90 = .bool (pre β 11) from by kernel_rfl]; exact giff _⟩
              · obtain rfl : k = 95 := by omega
                rw [opd htab ho (t := (.call { callee := .builtin .len, args := #[.tmp 97], argTypes := #[43] }, some 98, some (90, true))) (by kernel_rfl)]
                exact ⟨by decide, at_of htab (p := .move (.tmp 92)) (d := 93) (g := none) (by kernel_rfl), by rw [show wantF β 95 = pre β 11 from by kernel_rfl, show left2 (wantF β) (valF β f s b0 o bx) 90 = .bool (pre β 11) from by kernel_rfl]; exact giff _⟩
          · by_cases q12 : k < 98
            · by_cases q14 : k < 97
              · obtain rfl : k = 96 := by omega
                rw [opd htab ho (t := (.binOp .leq 3 (.tmp 98) (.const (.int .i64 16384)) 3, some 99, some (90, true))) (by kernel_rfl)]
                exact ⟨by decide, at_of htab (p := .move (.tmp 92)) (d := 93) (g := none) (by kernel_rfl), by rw [show wantF β 96 = pre β 11 from by kernel_rfl, show left2 (wantF β) (valF β f s b0 o bx) 90 = .bool (pre β 11) from by kernel_rfl]; exact giff _⟩
              · obtain rfl : k = 97 := by omega
                rw [opd htab ho (t := (.pick (.tmp 93) (.tmp 99) (.const (.bool false)), some 100, none)) (by kernel_rfl)]
                exact (show wantF β 97 = true from by kernel_rfl)
            · by_cases q14 : k < 99
              · obtain rfl : k = 98 := by omega
                rw [opd htab ho (t := (.move (.tmp 100), some 101, none)) (by kernel_rfl)]
                exact (show wantF β 98 = true from by kernel_rfl)
              · obtain rfl : k = 99 := by omega
                rw [opd htab ho (t := (.load 54 (.tmp 1), some 102, some (98, true))) (by kernel_rfl)]
                exact ⟨by decide, at_of htab (p := .move (.tmp 100)) (d := 101) (g := none) (by kernel_rfl), by rw [show wantF β 99 = pre β 12 from by kernel_rfl, show left2 (wantF β) (valF β f s b0 o bx) 98 = .bool (pre β 12) from by kernel_rfl]; exact giff _⟩
        · by_cases q10 : k < 103
          · by_cases q12 : k < 101
            · obtain rfl : k = 100 := by omega
              rw [opd htab ho (t := (.nilCheck (.tmp 102), some 103, some (98, true))) (by kernel_rfl)]
              exact ⟨by decide, at_of htab (p := .move (.tmp 100)) (d := 101) (g := none) (by kernel_rfl), by rw [show wantF β 100 = pre β 12 from by kernel_rfl, show left2 (wantF β) (valF β f s b0 o bx) 98 = .bool (pre β 12) from by kernel_rfl]; exact giff _⟩
            · by_cases q14 : k < 102
              · obtain rfl : k = 101 := by omega
                rw [opd htab ho (t := (.fieldAddr 45 (.tmp 103) 7, some 104, some (98, true))) (by kernel_rfl)]
                exact ⟨by decide, at_of htab (p := .move (.tmp 100)) (d := 101) (g := none) (by kernel_rfl), by rw [show wantF β 101 = pre β 12 from by kernel_rfl, show left2 (wantF β) (valF β f s b0 o bx) 98 = .bool (pre β 12) from by kernel_rfl]; exact giff _⟩
              · obtain rfl : k = 102 := by omega
                rw [opd htab ho (t := (.load 43 (.tmp 104), some 105, some (98, true))) (by kernel_rfl)]
                exact ⟨by decide, at_of htab (p := .move (.tmp 100)) (d := 101) (g := none) (by kernel_rfl), by rw [show wantF β 102 = pre β 12 from by kernel_rfl, show left2 (wantF β) (valF β f s b0 o bx) 98 = .bool (pre β 12) from by kernel_rfl]; exact giff _⟩
          · by_cases q12 : k < 105
            · by_cases q14 : k < 104
              · obtain rfl : k = 103 := by omega
                rw [opd htab ho (t := (.makeFunc (.func 46) #[] #[.tmp 1], some 106, some (98, true))) (by kernel_rfl)]
                exact ⟨by decide, at_of htab (p := .move (.tmp 100)) (d := 101) (g := none) (by kernel_rfl), by rw [show wantF β 103 = pre β 12 from by kernel_rfl, show left2 (wantF β) (valF β f s b0 o bx) 98 = .bool (pre β 12) from by kernel_rfl]; exact giff _⟩
              · obtain rfl : k = 104 := by omega
                rw [opd htab ho (t := (.call { callee := .value (.func 45), args := #[.tmp 105, .tmp 106], argTypes := #[43, 111] }, some 107, some (98, true))) (by kernel_rfl)]
                exact ⟨by decide, at_of htab (p := .move (.tmp 100)) (d := 101) (g := none) (by kernel_rfl), by rw [show wantF β 104 = pre β 12 from by kernel_rfl, show left2 (wantF β) (valF β f s b0 o bx) 98 = .bool (pre β 12) from by kernel_rfl]; exact giff _⟩
            · by_cases q14 : k < 106
              · obtain rfl : k = 105 := by omega
                rw [opd htab ho (t := (.pick (.tmp 101) (.tmp 107) (.const (.bool false)), some 108, none)) (by kernel_rfl)]
                exact (show wantF β 105 = true from by kernel_rfl)
              · obtain rfl : k = 106 := by omega
                rw [opd htab ho (t := (.assign (.tmp 108), some 2, none)) (by kernel_rfl)]
                exact (show wantF β 106 = true from by kernel_rfl)

theorem head_end {ops : Array Oper} {β : Nat → Bool} {f : Fm} {s : Fs} {b0 o bx : Nat} {a0 a : Act} (htab : ops.toList.map tri = opT) (hk : Known ops (wantF β) (valF β f s b0 o bx) a0 ops.size a) : a.tmps[2]? = some (.bool (pre β 13)) := by
  have h1 : ops.size = 107 := by
    have h2 := congrArg List.length htab
    simp at h2
    have h3 : opT.length = 107 := rfl
    omega
  have h2 := known_at hk htab (j := 106) (p := .assign (.tmp 108)) (d := 2) (g := none) (by kernel_rfl) (by omega)
  rw [h2]
  exact congrArg some (show left2 (wantF β) (valF β f s b0 o bx) 106 = .bool (pre β 13) from by kernel_rfl)

theorem pre_last {β : Nat → Bool} {i : Nat} (h : pre β (i + 1) = true) : pre β i = true ∧ β i = true := by
  unfold pre at h
  simpa using h

/-- What the head's conditions come to. -/
def condF (f : Fm) : Nat → Bool
  | 0 => decide ((f.name.size : Int) ≤ 4096)
  | 1 => decide ((0 : Int) ≤ f.params)
  | 2 => decide (f.params ≤ f.locals)
  | 3 => decide (f.locals ≤ 64)
  | 4 => decide ((f.caps.length : Int) ≤ 4096)
  | 5 => decide ((f.consts.length : Int) ≤ 16384)
  | 6 => f.consts.all constP
  | 7 => decide ((1 : Int) ≤ (f.code.length : Int))
  | 8 => decide ((f.code.length : Int) ≤ 16384)
  | 9 => ((f.lines.length : Int) == (f.code.length : Int))
  | 10 => f.lines.all (fun n => decide (0 ≤ n))
  | 11 => decide ((f.hs.length : Int) ≤ 16384)
  | _ => f.hs.all (handP f.code.length)

theorem pre_head (f : Fm) : pre (condF f) 13 = headP f false := by
  rw [Bool.eq_iff_iff, headP_iff]
  simp only [pre, condF, Bool.and_eq_true, decide_eq_true_eq, beq_iff_eq, true_and, and_assoc]
  constructor
  · rintro ⟨h0, h1, h2, h3, h4, h5, h6, h7, h8, h9, h10, h11, h12⟩
    exact ⟨by omega, h1, h2, h3, by omega, by omega, h6, by omega, by omega, by omega, h10, by omega, h12⟩
  · rintro ⟨h0, h1, h2, h3, h4, h5, h6, h7, h8, h9, h10, h11, h12⟩
    exact ⟨by omega, h1, h2, h3, by omega, by omega, h6, by omega, by omega, by omega, h10, by omega, h12⟩

end Go.Proofs.YtnekcomkochmjaaGreatDoor
