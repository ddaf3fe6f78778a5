/- A region that draws its order and only reads and makes: by the values that its operations yield. -/
import Derived.Test.YtnekcomkochmjaaGreatDoorVfPHead
import Derived.Deep.Quiet
namespace Go.Proofs.YtnekcomkochmjaaGreatDoor
set_option linter.unusedVariables false
set_option linter.unusedSimpArgs false
open Go.RowKit

/-- What an operation leaves in its slot. -/
def left2 (want : Nat → Bool) (val : Nat → Value) (j : Nat) : Value := if want j then val j else undef

/-- What is known of a frame behind k operations. -/
structure Known (ops : Array Oper) (want : Nat → Bool) (val : Nat → Value) (a0 : Act) (k : Nat) (a : Act) : Prop where
  size : a.tmps.size = a0.tmps.size
  defers : a.defers = a0.defers
  old : ∀ t, (∀ (j : Nat) (o : Oper), ops[j]? = some o → j < k → o.dst ≠ some t) → a.tmps[t]? = a0.tmps[t]?
  new : ∀ (j : Nat) (o : Oper) (d : Nat), ops[j]? = some o → o.dst = some d → j < k → a.tmps[d]? = some (left2 want val j)

theorem Known.put {ops : Array Oper} {want : Nat → Bool} {val : Nat → Value} {a0 a : Act} {k : Nat} (h : Known ops want val a0 k a) {o : Oper} (ho : ops[k]? = some o) (hd : ∀ (i j : Nat) (x y : Oper) (d : Nat), ops[i]? = some x → ops[j]? = some y → x.dst = some d → y.dst = some d → i = j) (hs : ∀ (j : Nat) (x : Oper) (d : Nat), ops[j]? = some x → x.dst = some d → d < a0.tmps.size) :
    Known ops want val a0 (k + 1) (a.put o.dst (left2 want val k)) := by
  cases hdst : o.dst with
  | none =>
    refine ⟨h.size, h.defers, fun t ht => h.old t (fun j x hx hj => ht j x hx (by omega)), fun j x d hx hxd hj => ?_⟩
    have : j ≠ k := by
      rintro rfl
      rw [ho] at hx
      cases hx
      rw [hdst] at hxd
      cases hxd
    exact h.new j x d hx hxd (by omega)
  | some e =>
    have he := hs k o e ho hdst
    refine ⟨by simp [Act.put, h.size], h.defers, fun t ht => ?_, fun j x d hx hxd hj => ?_⟩
    · have hne : e ≠ t := fun q => ht k o ho (by omega) (by rw [hdst, q])
      simp only [Act.put]
      rw [Array.getElem?_setIfInBounds_ne hne]
      exact h.old t (fun j x hx hj => ht j x hx (by omega))
    · by_cases q : j = k
      · subst q
        rw [ho] at hx
        cases hx
        rw [hdst] at hxd
        cases hxd
        simp only [Act.put]
        rw [Array.getElem?_setIfInBounds_self_of_lt (by rw [h.size]; exact he)]
      · have hne : e ≠ d := fun q2 => q (hd j k x o d hx ho hxd (by rw [hdst, q2]))
        simp only [Act.put]
        rw [Array.getElem?_setIfInBounds_ne hne]
        exact h.new j x d hx hxd (by omega)

theorem yielded_known {ops : Array Oper} {want : Nat → Bool} {val : Nat → Value} {a0 a : Act} {k j : Nat} (h : Known ops want val a0 k a) {o : Oper} {d : Nat} (ho : ops[j]? = some o) (hd : o.dst = some d) (hj : j < k) (b : Bool) : yielded ops a.tmps j = some b ↔ left2 want val j = .bool b := by
  unfold yielded
  rw [ho]
  simp only [Option.bind_some, hd]
  rw [h.new j o d ho hd hj]
  cases left2 want val j <;> simp

theorem quiet_all {P : Program} {ops : Array Oper} {C : World → Prop} {want : Nat → Bool} {val : Nat → Value} {a0 : Act}
    (hd : ∀ (i j : Nat) (x y : Oper) (d : Nat), ops[i]? = some x → ops[j]? = some y → x.dst = some d → y.dst = some d → i = j) (hs : ∀ (j : Nat) (x : Oper) (d : Nat), ops[j]? = some x → x.dst = some d → d < a0.tmps.size)
    (hg : ∀ (k : Nat) (o : Oper), ops[k]? = some o → match o.guard with | none => want k = true | some (j, b) => j < k ∧ (∃ x d, ops[j]? = some x ∧ x.dst = some d) ∧ (want k = true ↔ left2 want val j = .bool b))
    (hst : ∀ (k : Nat) (o : Oper) (a : Act), ops[k]? = some o → want k = true → Known ops want val a0 k a → ∀ w, C w → o.quietAt P a C w (val k)) :
    ∀ (m k : Nat) (a : Act), ops.size - k = m → Known ops want val a0 k a → wpQuiet P ops C (fun a' => Known ops want val a0 ops.size a') (ops.toList.drop k) a
  | 0, k, a, hm, hk => by
    have : ops.toList.drop k = [] := List.drop_eq_nil_of_le (by simp; omega)
    rw [this]
    refine wpQuiet_nil ⟨hk.size, hk.defers, fun t ht => hk.old t (fun j o ho hj => ht j o ho ?_), fun j o d ho hdd hj => hk.new j o d ho hdd (by omega)⟩
    exact (Array.getElem?_eq_some_iff.1 ho).1
  | m + 1, k, a, hm, hk => by
    have hkl : k < ops.size := by omega
    obtain ⟨o, ho⟩ : ∃ o, ops[k]? = some o := ⟨ops[k], by simp [hkl]⟩
    have hl : ops.toList.drop k = o :: ops.toList.drop (k + 1) := by
      rw [List.drop_eq_getElem_cons (by simpa using hkl)]
      congr 1
      have := (Array.getElem?_eq_some_iff.1 ho).2
      simpa using this
    rw [hl]
    have hgk := hg k o ho
    have hwant : Region.wanted o (yielded ops a.tmps) = want k := by
      unfold Region.wanted
      cases hgd : o.guard with
      | none => rw [hgd] at hgk; simp only at hgk; rw [hgk]
      | some jb =>
        obtain ⟨j, b⟩ := jb
        rw [hgd] at hgk
        simp only at hgk
        obtain ⟨g1, ⟨x, d, g2, g3⟩, g4⟩ := hgk
        simp only
        rw [Bool.eq_iff_iff, beq_iff_eq, yielded_known hk g2 g3 g1 b]
        exact g4.symm
    refine wpQuiet_step (fun K hK => ?_)
    rw [hwant]
    have ih := fun a' h' => hK a' (quiet_all hd hs hg hst m (k + 1) a' (by omega) h')
    have hput := hk.put ho hd hs
    unfold left2 at hput
    by_cases hw : want k = true
    · rw [if_pos hw] at hput ⊢
      exact ⟨val k, fun w hC => hst k o a ho hw hk w hC, ih _ hput⟩
    · rw [if_neg hw] at hput ⊢
      exact ih _ hput

theorem wpQuiet_mono {P : Program} {ops : Array Oper} {C : World → Prop} {Q Q' : Act → Prop} (h : ∀ a, Q a → Q' a) : ∀ (l : List Oper) (a : Act), wpQuiet P ops C Q l a → wpQuiet P ops C Q' l a
  | [], a, q => h a q
  | o :: r, a, q => by
    unfold wpQuiet at *
    split
    · rename_i hw
      rw [if_pos hw] at q
      exact Oper.quiet_mono (fun a' => wpQuiet_mono h r a') q
    · rename_i hw
      rw [if_neg hw] at q
      exact wpQuiet_mono h r _ q

section
variable {C : World → Prop} {a : Act} {o : Oper} {w : World}

theorem q_of {v : Value} (h : (execOp a.eval o).run Tryz.prog w = .ok (.value v) w) : o.quietAt Tryz.prog a C w v := by
  unfold Oper.quietAt
  rw [h]
  exact ⟨rfl, rfl⟩

theorem q_move {x : Operand} {v : Value} (ho : o.op = .move x) (hx : a.eval x = v) : o.quietAt Tryz.prog a C w v := by
  refine q_of ?_
  rw [BigFrame.run_move x ho, hx]

theorem q_assign {x : Operand} {v : Value} (ho : o.op = .assign x) (hx : a.eval x = v) : o.quietAt Tryz.prog a C w v := by
  refine q_of ?_
  rw [BigFrame.run_assign x ho, hx]

theorem q_loadPF {x : Operand} {p : Addr} {v : Value} (ho : o.op = .load 54 x) (hx : a.eval x = .pointer (some p)) (hc : w.cell? p = some v) : o.quietAt Tryz.prog a C w v := by
  refine q_of ?_
  generalize a.eval = ev at hx ⊢
  unfold execOp
  rw [ho]
  go_simp

theorem q_loadS {x : Operand} {p : Addr} {v : Value} (ho : o.op = .load 9 x) (hx : a.eval x = .pointer (some p)) (hc : w.cell? p = some v) : o.quietAt Tryz.prog a C w v := by
  refine q_of ?_
  generalize a.eval = ev at hx ⊢
  unfold execOp
  rw [ho]
  go_simp

theorem q_loadI {x : Operand} {p : Addr} {v : Value} (ho : o.op = .load 3 x) (hx : a.eval x = .pointer (some p)) (hc : w.cell? p = some v) : o.quietAt Tryz.prog a C w v := by
  refine q_of ?_
  generalize a.eval = ev at hx ⊢
  unfold execOp
  rw [ho]
  go_simp

theorem q_loadCP {x : Operand} {p : Addr} {v : Value} (ho : o.op = .load 41 x) (hx : a.eval x = .pointer (some p)) (hc : w.cell? p = some v) : o.quietAt Tryz.prog a C w v := by
  refine q_of ?_
  generalize a.eval = ev at hx ⊢
  unfold execOp
  rw [ho]
  go_simp

theorem q_loadCK {x : Operand} {p : Addr} {v : Value} (ho : o.op = .load 42 x) (hx : a.eval x = .pointer (some p)) (hc : w.cell? p = some v) : o.quietAt Tryz.prog a C w v := by
  refine q_of ?_
  generalize a.eval = ev at hx ⊢
  unfold execOp
  rw [ho]
  go_simp

theorem q_loadIN {x : Operand} {p : Addr} {v : Value} (ho : o.op = .load 39 x) (hx : a.eval x = .pointer (some p)) (hc : w.cell? p = some v) : o.quietAt Tryz.prog a C w v := by
  refine q_of ?_
  generalize a.eval = ev at hx ⊢
  unfold execOp
  rw [ho]
  go_simp

theorem q_loadLI {x : Operand} {p : Addr} {v : Value} (ho : o.op = .load 40 x) (hx : a.eval x = .pointer (some p)) (hc : w.cell? p = some v) : o.quietAt Tryz.prog a C w v := by
  refine q_of ?_
  generalize a.eval = ev at hx ⊢
  unfold execOp
  rw [ho]
  go_simp

theorem q_loadHN {x : Operand} {p : Addr} {v : Value} (ho : o.op = .load 43 x) (hx : a.eval x = .pointer (some p)) (hc : w.cell? p = some v) : o.quietAt Tryz.prog a C w v := by
  refine q_of ?_
  generalize a.eval = ev at hx ⊢
  unfold execOp
  rw [ho]
  go_simp

theorem q_nil {x : Operand} {p : Addr} (ho : o.op = .nilCheck x) (hx : a.eval x = .pointer (some p)) : o.quietAt Tryz.prog a C w (.pointer (some p)) := by
  refine q_of ?_
  generalize a.eval = ev at hx ⊢
  unfold execOp
  rw [ho]
  go_simp

theorem q_field0 {x : Operand} {b0 o0 : Nat} (ho : o.op = .fieldAddr 45 x 0) (hx : a.eval x = .pointer (some ⟨b0, o0, none⟩)) : o.quietAt Tryz.prog a C w (.pointer (some ⟨b0, o0, none⟩)) := by
  refine q_of ?_
  generalize a.eval = ev at hx ⊢
  unfold execOp
  rw [ho]
  go_simp

theorem q_field1 {x : Operand} {b0 o0 : Nat} (ho : o.op = .fieldAddr 45 x 1) (hx : a.eval x = .pointer (some ⟨b0, o0, none⟩)) : o.quietAt Tryz.prog a C w (.pointer (some ⟨b0, o0 + 1, none⟩)) := by
  refine q_of ?_
  generalize a.eval = ev at hx ⊢
  unfold execOp
  rw [ho]
  go_simp

theorem q_field2 {x : Operand} {b0 o0 : Nat} (ho : o.op = .fieldAddr 45 x 2) (hx : a.eval x = .pointer (some ⟨b0, o0, none⟩)) : o.quietAt Tryz.prog a C w (.pointer (some ⟨b0, o0 + 2, none⟩)) := by
  refine q_of ?_
  generalize a.eval = ev at hx ⊢
  unfold execOp
  rw [ho]
  go_simp

theorem q_field3 {x : Operand} {b0 o0 : Nat} (ho : o.op = .fieldAddr 45 x 3) (hx : a.eval x = .pointer (some ⟨b0, o0, none⟩)) : o.quietAt Tryz.prog a C w (.pointer (some ⟨b0, o0 + 3, none⟩)) := by
  refine q_of ?_
  generalize a.eval = ev at hx ⊢
  unfold execOp
  rw [ho]
  go_simp

theorem q_field4 {x : Operand} {b0 o0 : Nat} (ho : o.op = .fieldAddr 45 x 4) (hx : a.eval x = .pointer (some ⟨b0, o0, none⟩)) : o.quietAt Tryz.prog a C w (.pointer (some ⟨b0, o0 + 4, none⟩)) := by
  refine q_of ?_
  generalize a.eval = ev at hx ⊢
  unfold execOp
  rw [ho]
  go_simp

theorem q_field5 {x : Operand} {b0 o0 : Nat} (ho : o.op = .fieldAddr 45 x 5) (hx : a.eval x = .pointer (some ⟨b0, o0, none⟩)) : o.quietAt Tryz.prog a C w (.pointer (some ⟨b0, o0 + 5, none⟩)) := by
  refine q_of ?_
  generalize a.eval = ev at hx ⊢
  unfold execOp
  rw [ho]
  go_simp

theorem q_field6 {x : Operand} {b0 o0 : Nat} (ho : o.op = .fieldAddr 45 x 6) (hx : a.eval x = .pointer (some ⟨b0, o0, none⟩)) : o.quietAt Tryz.prog a C w (.pointer (some ⟨b0, o0 + 6, none⟩)) := by
  refine q_of ?_
  generalize a.eval = ev at hx ⊢
  unfold execOp
  rw [ho]
  go_simp

theorem q_field7 {x : Operand} {b0 o0 : Nat} (ho : o.op = .fieldAddr 45 x 7) (hx : a.eval x = .pointer (some ⟨b0, o0, none⟩)) : o.quietAt Tryz.prog a C w (.pointer (some ⟨b0, o0 + 7, none⟩)) := by
  refine q_of ?_
  generalize a.eval = ev at hx ⊢
  unfold execOp
  rw [ho]
  go_simp

theorem q_lenS {x : Operand} {st : ByteArray} (ho : o.op = .call { callee := .builtin .len, args := #[x], argTypes := #[9] }) (hx : a.eval x = .string st) : o.quietAt Tryz.prog a C w (.int .i64 st.size) := by
  refine q_of ?_
  generalize a.eval = ev at hx ⊢
  unfold execOp
  rw [ho]
  go_simp

theorem q_lenCP {x : Operand} {p : Option Addr} {n c : Nat} (ho : o.op = .call { callee := .builtin .len, args := #[x], argTypes := #[41] }) (hx : a.eval x = .slice p n c) : o.quietAt Tryz.prog a C w (.int .i64 n) := by
  refine q_of ?_
  generalize a.eval = ev at hx ⊢
  unfold execOp
  rw [ho]
  go_simp

theorem q_lenCK {x : Operand} {p : Option Addr} {n c : Nat} (ho : o.op = .call { callee := .builtin .len, args := #[x], argTypes := #[42] }) (hx : a.eval x = .slice p n c) : o.quietAt Tryz.prog a C w (.int .i64 n) := by
  refine q_of ?_
  generalize a.eval = ev at hx ⊢
  unfold execOp
  rw [ho]
  go_simp

theorem q_lenIN {x : Operand} {p : Option Addr} {n c : Nat} (ho : o.op = .call { callee := .builtin .len, args := #[x], argTypes := #[39] }) (hx : a.eval x = .slice p n c) : o.quietAt Tryz.prog a C w (.int .i64 n) := by
  refine q_of ?_
  generalize a.eval = ev at hx ⊢
  unfold execOp
  rw [ho]
  go_simp

theorem q_lenLI {x : Operand} {p : Option Addr} {n c : Nat} (ho : o.op = .call { callee := .builtin .len, args := #[x], argTypes := #[40] }) (hx : a.eval x = .slice p n c) : o.quietAt Tryz.prog a C w (.int .i64 n) := by
  refine q_of ?_
  generalize a.eval = ev at hx ⊢
  unfold execOp
  rw [ho]
  go_simp

theorem q_lenHN {x : Operand} {p : Option Addr} {n c : Nat} (ho : o.op = .call { callee := .builtin .len, args := #[x], argTypes := #[43] }) (hx : a.eval x = .slice p n c) : o.quietAt Tryz.prog a C w (.int .i64 n) := by
  refine q_of ?_
  generalize a.eval = ev at hx ⊢
  unfold execOp
  rw [ho]
  go_simp

theorem q_leq {x y : Operand} {u v : Int} (ho : o.op = .binOp .leq 3 x y 3) (hx : a.eval x = .int .i64 u) (hy : a.eval y = .int .i64 v) : o.quietAt Tryz.prog a C w (.bool (decide (u ≤ v))) := by
  refine q_of ?_
  generalize a.eval = ev at hx hy ⊢
  unfold execOp
  rw [ho]
  go_simp

theorem q_geq {x y : Operand} {u v : Int} (ho : o.op = .binOp .geq 3 x y 3) (hx : a.eval x = .int .i64 u) (hy : a.eval y = .int .i64 v) : o.quietAt Tryz.prog a C w (.bool (decide (v ≤ u))) := by
  refine q_of ?_
  generalize a.eval = ev at hx hy ⊢
  unfold execOp
  rw [ho]
  go_simp

theorem q_eql {x y : Operand} {u v : Int} (ho : o.op = .binOp .eql 3 x y 3) (hx : a.eval x = .int .i64 u) (hy : a.eval y = .int .i64 v) : o.quietAt Tryz.prog a C w (.bool ((u == v))) := by
  refine q_of ?_
  generalize a.eval = ev at hx hy ⊢
  unfold execOp
  rw [ho]
  go_simp

theorem q_pick {x y z : Operand} {b : Bool} {v : Value} (ho : o.op = .pick x y z) (hx : a.eval x = .bool b) (hv : (if b then a.eval y else a.eval z) = v) : o.quietAt Tryz.prog a C w v := by
  refine q_of ?_
  generalize a.eval = ev at hx hv ⊢
  unfold execOp
  rw [ho]
  cases b <;> (simp at hv; subst hv; go_simp)

theorem q_func {x : Operand} {f : FuncId} {v : Value} (ho : o.op = .makeFunc (.func f) #[] #[x]) (hx : a.eval x = v) : o.quietAt Tryz.prog a C w (.func (.func f) #[] #[v]) := by
  refine q_of ?_
  generalize a.eval = ev at hx ⊢
  unfold execOp
  rw [ho]
  go_simp
end

end Go.Proofs.YtnekcomkochmjaaGreatDoor
