/- The program's head: the values of its region's operations. -/
import Derived.Test.YtnekcomkochmjaaGreatDoorVfPHeadQ
namespace Go.Proofs.YtnekcomkochmjaaGreatDoor
set_option linter.unusedVariables false
set_option linter.unusedSimpArgs false
open Go.RowKit

/-- The first so many hold. -/
def pre (β : Nat → Bool) : Nat → Bool
  | 0 => true
  | i + 1 => pre β i && β i

def tri (o : Oper) : Op × Option Tmp × Option (Nat × Bool) := (o.op, o.dst, o.guard)

def opT : List (Op × Option Tmp × Option (Nat × Bool)) := [
  (.load 54 (.tmp 1), some 3, none),
  (.nilCheck (.tmp 3), some 4, none),
  (.fieldAddr 45 (.tmp 4) 0, some 5, none),
  (.load 9 (.tmp 5), some 6, none),
  (.call { callee := .builtin .len, args := #[.tmp 6], argTypes := #[9] }, some 7, none),
  (.binOp .leq 3 (.tmp 7) (.const (.int .i64 4096)) 3, some 8, none),
  (.move (.tmp 8), some 9, none),
  (.load 54 (.tmp 1), some 10, some (6, true)),
  (.nilCheck (.tmp 10), some 11, some (6, true)),
  (.fieldAddr 45 (.tmp 11) 1, some 12, some (6, true)),
  (.load 3 (.tmp 12), some 13, some (6, true)),
  (.binOp .geq 3 (.tmp 13) (.const (.int .i64 0)) 3, some 14, some (6, true)),
  (.pick (.tmp 9) (.tmp 14) (.const (.bool false)), some 15, none),
  (.move (.tmp 15), some 16, none),
  (.load 54 (.tmp 1), some 17, some (13, true)),
  (.nilCheck (.tmp 17), some 18, some (13, true)),
  (.fieldAddr 45 (.tmp 18) 1, some 19, some (13, true)),
  (.load 3 (.tmp 19), some 20, some (13, true)),
  (.load 54 (.tmp 1), some 21, some (13, true)),
  (.nilCheck (.tmp 21), some 22, some (13, true)),
  (.fieldAddr 45 (.tmp 22) 2, some 23, some (13, true)),
  (.load 3 (.tmp 23), some 24, some (13, true)),
  (.binOp .leq 3 (.tmp 20) (.tmp 24) 3, some 25, some (13, true)),
  (.pick (.tmp 16) (.tmp 25) (.const (.bool false)), some 26, none),
  (.move (.tmp 26), some 27, none),
  (.load 54 (.tmp 1), some 28, some (24, true)),
  (.nilCheck (.tmp 28), some 29, some (24, true)),
  (.fieldAddr 45 (.tmp 29) 2, some 30, some (24, true)),
  (.load 3 (.tmp 30), some 31, some (24, true)),
  (.binOp .leq 3 (.tmp 31) (.const (.int .i64 64)) 3, some 32, some (24, true)),
  (.pick (.tmp 27) (.tmp 32) (.const (.bool false)), some 33, none),
  (.move (.tmp 33), some 34, none),
  (.load 54 (.tmp 1), some 35, some (31, true)),
  (.nilCheck (.tmp 35), some 36, some (31, true)),
  (.fieldAddr 45 (.tmp 36) 3, some 37, some (31, true)),
  (.load 41 (.tmp 37), some 38, some (31, true)),
  (.call { callee := .builtin .len, args := #[.tmp 38], argTypes := #[41] }, some 39, some (31, true)),
  (.binOp .leq 3 (.tmp 39) (.const (.int .i64 4096)) 3, some 40, some (31, true)),
  (.pick (.tmp 34) (.tmp 40) (.const (.bool false)), some 41, none),
  (.move (.tmp 41), some 42, none),
  (.load 54 (.tmp 1), some 43, some (39, true)),
  (.nilCheck (.tmp 43), some 44, some (39, true)),
  (.fieldAddr 45 (.tmp 44) 4, some 45, some (39, true)),
  (.load 42 (.tmp 45), some 46, some (39, true)),
  (.call { callee := .builtin .len, args := #[.tmp 46], argTypes := #[42] }, some 47, some (39, true)),
  (.binOp .leq 3 (.tmp 47) (.const (.int .i64 16384)) 3, some 48, some (39, true)),
  (.pick (.tmp 42) (.tmp 48) (.const (.bool false)), some 49, none),
  (.move (.tmp 49), some 50, none),
  (.load 54 (.tmp 1), some 51, some (47, true)),
  (.nilCheck (.tmp 51), some 52, some (47, true)),
  (.fieldAddr 45 (.tmp 52) 4, some 53, some (47, true)),
  (.load 42 (.tmp 53), some 54, some (47, true)),
  (.call { callee := .value (.func 41), args := #[.tmp 54, .func 42], argTypes := #[42, 106] }, some 55, some (47, true)),
  (.pick (.tmp 50) (.tmp 55) (.const (.bool false)), some 56, none),
  (.move (.tmp 56), some 57, none),
  (.load 54 (.tmp 1), some 58, some (54, true)),
  (.nilCheck (.tmp 58), some 59, some (54, true)),
  (.fieldAddr 45 (.tmp 59) 5, some 60, some (54, true)),
  (.load 39 (.tmp 60), some 61, some (54, true)),
  (.call { callee := .builtin .len, args := #[.tmp 61], argTypes := #[39] }, some 62, some (54, true)),
  (.binOp .geq 3 (.tmp 62) (.const (.int .i64 1)) 3, some 63, some (54, true)),
  (.pick (.tmp 57) (.tmp 63) (.const (.bool false)), some 64, none),
  (.move (.tmp 64), some 65, none),
  (.load 54 (.tmp 1), some 66, some (62, true)),
  (.nilCheck (.tmp 66), some 67, some (62, true)),
  (.fieldAddr 45 (.tmp 67) 5, some 68, some (62, true)),
  (.load 39 (.tmp 68), some 69, some (62, true)),
  (.call { callee := .builtin .len, args := #[.tmp 69], argTypes := #[39] }, some 70, some (62, true)),
  (.binOp .leq 3 (.tmp 70) (.const (.int .i64 16384)) 3, some 71, some (62, true)),
  (.pick (.tmp 65) (.tmp 71) (.const (.bool false)), some 72, none),
  (.move (.tmp 72), some 73, none),
  (.load 54 (.tmp 1), some 74, some (70, true)),
  (.nilCheck (.tmp 74), some 75, some (70, true)),
  (.fieldAddr 45 (.tmp 75) 6, some 76, some (70, true)),
  (.load 40 (.tmp 76), some 77, some (70, true)),
  (.call { callee := .builtin .len, args := #[.tmp 77], argTypes := #[40] }, some 78, some (70, true)),
  (.load 54 (.tmp 1), some 79, some (70, true)),
  (.nilCheck (.tmp 79), some 80, some (70, true)),
  (.fieldAddr 45 (.tmp 80) 5, some 81, some (70, true)),
  (.load 39 (.tmp 81), some 82, some (70, true)),
  (.call { callee := .builtin .len, args := #[.tmp 82], argTypes := #[39] }, some 83, some (70, true)),
  (.binOp .eql 3 (.tmp 78) (.tmp 83) 3, some 84, some (70, true)),
  (.pick (.tmp 73) (.tmp 84) (.const (.bool false)), some 85, none),
  (.move (.tmp 85), some 86, none),
  (.load 54 (.tmp 1), some 87, some (83, true)),
  (.nilCheck (.tmp 87), some 88, some (83, true)),
  (.fieldAddr 45 (.tmp 88) 6, some 89, some (83, true)),
  (.load 40 (.tmp 89), some 90, some (83, true)),
  (.call { callee := .value (.func 43), args := #[.tmp 90, .func 44], argTypes := #[40, 108] }, some 91, some (83, true)),
  (.pick (.tmp 86) (.tmp 91) (.const (.bool false)), some 92, none),
  (.move (.tmp 92), some 93, none),
  (.load 54 (.tmp 1), some 94, some (90, true)),
  (.nilCheck (.tmp 94), some 95, some (90, true)),
  (.fieldAddr 45 (.tmp 95) 7, some 96, some (90, true)),
  (.load 43 (.tmp 96), some 97, some (90, true)),
  (.call { callee := .builtin .len, args := #[.tmp 97], argTypes := #[43] }, some 98, some (90, true)),
  (.binOp .leq 3 (.tmp 98) (.const (.int .i64 16384)) 3, some 99, some (90, true)),
  (.pick (.tmp 93) (.tmp 99) (.const (.bool false)), some 100, none),
  (.move (.tmp 100), some 101, none),
  (.load 54 (.tmp 1), some 102, some (98, true)),
  (.nilCheck (.tmp 102), some 103, some (98, true)),
  (.fieldAddr 45 (.tmp 103) 7, some 104, some (98, true)),
  (.load 43 (.tmp 104), some 105, some (98, true)),
  (.makeFunc (.func 46) #[] #[.tmp 1], some 106, some (98, true)),
  (.call { callee := .value (.func 45), args := #[.tmp 105, .tmp 106], argTypes := #[43, 111] }, some 107, some (98, true)),
  (.pick (.tmp 101) (.tmp 107) (.const (.bool false)), some 108, none),
  (.assign (.tmp 108), some 2, none)]

def wantT (β : Nat → Bool) : List Bool := [true, true, true, true, true, true, true, pre β 1, pre β 1, pre β 1, pre β 1, pre β 1, true, true, pre β 2, pre β 2, pre β 2, pre β 2, pre β 2, pre β 2, pre β 2, pre β 2, pre β 2, true, true, pre β 3, pre β 3, pre β 3, pre β 3, pre β 3, true, true, pre β 4, pre β 4, pre β 4, pre β 4, pre β 4, pre β 4, true, true, pre β 5, pre β 5, pre β 5, pre β 5, pre β 5, pre β 5, true, true, pre β 6, pre β 6, pre β 6, pre β 6, pre β 6, true, true, pre β 7, pre β 7, pre β 7, pre β 7, pre β 7, pre β 7, true, true, pre β 8, pre β 8, pre β 8, pre β 8, pre β 8, pre β 8, true, true, pre β 9, pre β 9, pre β 9, pre β 9, pre β 9, pre β 9, pre β 9, pre β 9, pre β 9, pre β 9, pre β 9, true, true, pre β 10, pre β 10, pre β 10, pre β 10, pre β 10, true, true, pre β 11, pre β 11, pre β 11, pre β 11, pre β 11, pre β 11, true, true, pre β 12, pre β 12, pre β 12, pre β 12, pre β 12, pre β 12, true, true]

def valT (β : Nat → Bool) (f : Fm) (s : Fs) (b0 o bx : Nat) : List Value := [
  .pointer (some ⟨b0, o, none⟩),
  .pointer (some ⟨b0, o, none⟩),
  .pointer (some ⟨b0, o, none⟩),
  .string f.name,
  .int .i64 ((f.name.size : Nat) : Int),
  .bool (β 0),
  .bool (pre β 1),
  .pointer (some ⟨b0, o, none⟩),
  .pointer (some ⟨b0, o, none⟩),
  .pointer (some ⟨b0, o + 1, none⟩),
  .int .i64 f.params,
  .bool (β 1),
  .bool (pre β 2),
  .bool (pre β 2),
  .pointer (some ⟨b0, o, none⟩),
  .pointer (some ⟨b0, o, none⟩),
  .pointer (some ⟨b0, o + 1, none⟩),
  .int .i64 f.params,
  .pointer (some ⟨b0, o, none⟩),
  .pointer (some ⟨b0, o, none⟩),
  .pointer (some ⟨b0, o + 2, none⟩),
  .int .i64 f.locals,
  .bool (β 2),
  .bool (pre β 3),
  .bool (pre β 3),
  .pointer (some ⟨b0, o, none⟩),
  .pointer (some ⟨b0, o, none⟩),
  .pointer (some ⟨b0, o + 2, none⟩),
  .int .i64 f.locals,
  .bool (β 3),
  .bool (pre β 4),
  .bool (pre β 4),
  .pointer (some ⟨b0, o, none⟩),
  .pointer (some ⟨b0, o, none⟩),
  .pointer (some ⟨b0, o + 3, none⟩),
  .slice s.qc f.caps.length s.cc,
  .int .i64 ((f.caps.length : Nat) : Int),
  .bool (β 4),
  .bool (pre β 5),
  .bool (pre β 5),
  .pointer (some ⟨b0, o, none⟩),
  .pointer (some ⟨b0, o, none⟩),
  .pointer (some ⟨b0, o + 4, none⟩),
  .slice s.qk f.consts.length s.ck,
  .int .i64 ((f.consts.length : Nat) : Int),
  .bool (β 5),
  .bool (pre β 6),
  .bool (pre β 6),
  .pointer (some ⟨b0, o, none⟩),
  .pointer (some ⟨b0, o, none⟩),
  .pointer (some ⟨b0, o + 4, none⟩),
  .slice s.qk f.consts.length s.ck,
  .bool (β 6),
  .bool (pre β 7),
  .bool (pre β 7),
  .pointer (some ⟨b0, o, none⟩),
  .pointer (some ⟨b0, o, none⟩),
  .pointer (some ⟨b0, o + 5, none⟩),
  .slice s.qi f.code.length s.ci,
  .int .i64 ((f.code.length : Nat) : Int),
  .bool (β 7),
  .bool (pre β 8),
  .bool (pre β 8),
  .pointer (some ⟨b0, o, none⟩),
  .pointer (some ⟨b0, o, none⟩),
  .pointer (some ⟨b0, o + 5, none⟩),
  .slice s.qi f.code.length s.ci,
  .int .i64 ((f.code.length : Nat) : Int),
  .bool (β 8),
  .bool (pre β 9),
  .bool (pre β 9),
  .pointer (some ⟨b0, o, none⟩),
  .pointer (some ⟨b0, o, none⟩),
  .pointer (some ⟨b0, o + 6, none⟩),
  .slice s.ql f.lines.length s.cl,
  .int .i64 ((f.lines.length : Nat) : Int),
  .pointer (some ⟨b0, o, none⟩),
  .pointer (some ⟨b0, o, none⟩),
  .pointer (some ⟨b0, o + 5, none⟩),
  .slice s.qi f.code.length s.ci,
  .int .i64 ((f.code.length : Nat) : Int),
  .bool (β 9),
  .bool (pre β 10),
  .bool (pre β 10),
  .pointer (some ⟨b0, o, none⟩),
  .pointer (some ⟨b0, o, none⟩),
  .pointer (some ⟨b0, o + 6, none⟩),
  .slice s.ql f.lines.length s.cl,
  .bool (β 10),
  .bool (pre β 11),
  .bool (pre β 11),
  .pointer (some ⟨b0, o, none⟩),
  .pointer (some ⟨b0, o, none⟩),
  .pointer (some ⟨b0, o + 7, none⟩),
  .slice s.qh f.hs.length s.ch,
  .int .i64 ((f.hs.length : Nat) : Int),
  .bool (β 11),
  .bool (pre β 12),
  .bool (pre β 12),
  .pointer (some ⟨b0, o, none⟩),
  .pointer (some ⟨b0, o, none⟩),
  .pointer (some ⟨b0, o + 7, none⟩),
  .slice s.qh f.hs.length s.ch,
  .func (.func 46) #[] #[.pointer (some ⟨bx, 0, none⟩)],
  .bool (β 12),
  .bool (pre β 13),
  .bool (pre β 13)]

def wantF (β : Nat → Bool) (k : Nat) : Bool := (wantT β).getD k true

def valF (β : Nat → Bool) (f : Fm) (s : Fs) (b0 o bx : Nat) (k : Nat) : Value := (valT β f s b0 o bx).getD k undef

def dstL : List (Option Nat) := [some 3, some 4, some 5, some 6, some 7, some 8, some 9, some 10, some 11, some 12, some 13, some 14, some 15, some 16, some 17, some 18, some 19, some 20, some 21, some 22, some 23, some 24, some 25, some 26, some 27, some 28, some 29, some 30, some 31, some 32, some 33, some 34, some 35, some 36, some 37, some 38, some 39, some 40, some 41, some 42, some 43, some 44, some 45, some 46, some 47, some 48, some 49, some 50, some 51, some 52, some 53, some 54, some 55, some 56, some 57, some 58, some 59, some 60, some 61, some 62, some 63, some 64, some 65, some 66, some 67, some 68, some 69, some 70, some 71, some 72, some 73, some 74, some 75, some 76, some 77, some 78, some 79, some 80, some 81, some 82, some 83, some 84, some 85, some 86, some 87, some 88, some 89, some 90, some 91, some 92, some 93, some 94, some 95, some 96, some 97, some 98, some 99, some 100, some 101, some 102, some 103, some 104, some 105, some 106, some 107, some 108, some 2]

theorem dst_ok : opT.map (fun t => t.2.1) = dstL := rfl

theorem dst_apart : ∀ i, i < 107 → ∀ j, j < 107 → dstL.getD i none = dstL.getD j none → dstL.getD i none ≠ none → i = j := by decide +kernel

theorem dst_low : ∀ i, i < 107 → ∀ d, dstL.getD i none = some d → d < 109 ∧ d ≠ 1 := by
  intro i hi d h
  have : ∀ i, i < 107 → (match dstL.getD i none with | some d => decide (d < 109 ∧ d ≠ 1) | none => true) = true := by decide +kernel
  have := this i hi
  rw [h] at this
  simpa using this

section
variable {ops : Array Oper} {β : Nat → Bool} {f : Fm} {s : Fs} {b0 o bx : Nat} {a0 a : Act} {C : World → Prop} {k : Nat}

theorem opa {x : Oper} {t : Op × Option Tmp × Option (Nat × Bool)} (htab : ops.toList.map tri = opT) (ho : ops[k]? = some x) (ht : opT[k]? = some t) : x.op = t.1 := by
  have h1 : (ops.toList.map tri)[k]? = some (tri x) := by rw [List.getElem?_map]; simp [ho]
  rw [htab, ht] at h1
  have := Option.some.inj h1
  rw [this]
  rfl

theorem opg {x : Oper} (htab : ops.toList.map tri = opT) (ho : ops[k]? = some x) : opT[k]? = some (x.op, x.dst, x.guard) := by
  have h1 : (ops.toList.map tri)[k]? = some (tri x) := by rw [List.getElem?_map]; simp [ho]
  rw [htab] at h1
  exact h1

theorem known_at {want : Nat → Bool} {val : Nat → Value} (hk : Known ops want val a0 k a) (htab : ops.toList.map tri = opT) {j d : Nat} {p : Op} {g : Option (Nat × Bool)} (hj : opT[j]? = some (p, some d, g)) (hjk : j < k) : a.tmps[d]? = some (left2 want val j) := by
  have h1 : (ops.toList.map tri)[j]? = some (p, some d, g) := by rw [htab]; exact hj
  rw [List.getElem?_map] at h1
  obtain ⟨x, hx, e⟩ := Option.map_eq_some_iff.1 h1
  have hx' : ops[j]? = some x := by simpa using hx
  have hd : x.dst = some d := by have := congrArg (fun t => t.2.1) e; exact this
  exact hk.new j x d hx' hd hjk

theorem ev_of {d : Nat} {v : Value} (h : a.tmps[d]? = some v) : a.eval (.tmp d) = v := by
  show a.tmps.getD d undef = v
  rw [Array.getD_eq_getD_getElem?, h]
  rfl

theorem ev_v {want : Nat → Bool} {val : Nat → Value} {j d : Nat} {p : Op} {g : Option (Nat × Bool)} {v : Value} (hk : Known ops want val a0 k a) (htab : ops.toList.map tri = opT) (hj : opT[j]? = some (p, some d, g)) (hjk : j < k) (hv : val j = v) (hw : want j = true) : a.eval (.tmp d) = v := by
  rw [ev_of (known_at hk htab hj hjk)]
  unfold left2
  rw [if_pos hw, hv]

theorem ev_l {want : Nat → Bool} {val : Nat → Value} {j d : Nat} {p : Op} {g : Option (Nat × Bool)} {v : Value} {b : Bool} (hk : Known ops want val a0 k a) (htab : ops.toList.map tri = opT) (hj : opT[j]? = some (p, some d, g)) (hjk : j < k) (hv : val j = v) (hw : want j = b) : a.eval (.tmp d) = if b then v else undef := by
  rw [ev_of (known_at hk htab hj hjk)]
  unfold left2
  rw [hw, hv]

theorem ev_w {want : Nat → Bool} {val : Nat → Value} {d j : Nat} (hw : want j = true) (h : a.tmps[d]? = some (left2 want val j)) : a.eval (.tmp d) = val j := by
  rw [ev_of h]
  unfold left2
  rw [if_pos hw]

theorem giff (b : Bool) : (b = true ↔ Value.bool b = .bool true) := ⟨fun h => by rw [h], fun h => by injection h⟩

theorem pick_pre {x : Value} {b c : Bool} (h : x = if b then .bool c else undef) : (if b then x else .bool false) = Value.bool (b && c) := by
  cases b
  · rfl
  · simp at h; simp [h]

theorem kold {want : Nat → Bool} {val : Nat → Value} {v : Value} (hk : Known ops want val a0 k a) (h1 : ∀ a : Act, Known ops want val a0 k a → a.tmps[1]? = some v) : a.eval (.tmp 1) = v := ev_of (h1 a hk)

variable {w : World} {x : Oper}

theorem q_callC {p : Option Addr} {n c : Nat} {y : Operand} {v : Value} (ho : x.op = .call { callee := .value (.func 41), args := #[y, .func 42], argTypes := #[42, 106] }) (hx : a.eval y = .slice p n c)
    (hcall : Calls Tryz.prog 41 #[.slice p n c, .func (.func 42) #[] #[]] w (fun e w'' => e = .returned v ∧ C w'')) : x.quietAt Tryz.prog a C w v := by
  have hf : a.eval (.func 42) = .func (.func 42) #[] #[] := rfl
  have hg : a.eval (.func 41) = .func (.func 41) #[] #[] := rfl
  have e : (execOp a.eval x).run Tryz.prog w = .ok (.enter 41 #[.slice p n c, .func (.func 42) #[] #[]]) w := by
    generalize a.eval = ev at hx hf hg ⊢
    unfold execOp
    rw [ho]
    go_simp
  unfold Oper.quietAt
  rw [e]
  exact ⟨rfl, hcall⟩

theorem q_callL {p : Option Addr} {n c : Nat} {y : Operand} {v : Value} (ho : x.op = .call { callee := .value (.func 43), args := #[y, .func 44], argTypes := #[40, 108] }) (hx : a.eval y = .slice p n c)
    (hcall : Calls Tryz.prog 43 #[.slice p n c, .func (.func 44) #[] #[]] w (fun e w'' => e = .returned v ∧ C w'')) : x.quietAt Tryz.prog a C w v := by
  have hf : a.eval (.func 44) = .func (.func 44) #[] #[] := rfl
  have hg : a.eval (.func 43) = .func (.func 43) #[] #[] := rfl
  have e : (execOp a.eval x).run Tryz.prog w = .ok (.enter 43 #[.slice p n c, .func (.func 44) #[] #[]]) w := by
    generalize a.eval = ev at hx hf hg ⊢
    unfold execOp
    rw [ho]
    go_simp
  unfold Oper.quietAt
  rw [e]
  exact ⟨rfl, hcall⟩

theorem q_callH {p : Option Addr} {n c : Nat} {y z : Operand} {u v : Value} (ho : x.op = .call { callee := .value (.func 45), args := #[y, z], argTypes := #[43, 111] }) (hx : a.eval y = .slice p n c) (hz : a.eval z = u)
    (hcall : Calls Tryz.prog 45 #[.slice p n c, u] w (fun e w'' => e = .returned v ∧ C w'')) : x.quietAt Tryz.prog a C w v := by
  have hg : a.eval (.func 45) = .func (.func 45) #[] #[] := rfl
  have e : (execOp a.eval x).run Tryz.prog w = .ok (.enter 45 #[.slice p n c, u]) w := by
    generalize a.eval = ev at hx hz hg ⊢
    unfold execOp
    rw [ho]
    go_simp
  unfold Oper.quietAt
  rw [e]
  exact ⟨rfl, hcall⟩
end

end Go.Proofs.YtnekcomkochmjaaGreatDoor
