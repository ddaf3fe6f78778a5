/- The document's Words. -/
import Derived.Test.YtppjahnahomkeaaShReach
namespace Go.Proofs.Ytppjahnahomkeaa
set_option linter.unusedVariables false
set_option linter.unusedSimpArgs false
open Go.RowKit

variable {w : World}

theorem sumB_take {In : List Bool} {S : List Om} {j : Nat} {b : Bool} {o : Om} (hl : In.length = S.length) (hb : In[j]? = some b) (ho : S[j]? = some o) : sumB (In.take (j + 1)) (S.take (j + 1)) = sumB (In.take j) (S.take j) + (if b then wordsO o else 0) := by
  rw [List.take_add_one, List.take_add_one, hb, ho]
  exact sumB_snoc (by simp [hl])

theorem Fair.take {S : List Om} (h : Fair S) (j : Nat) : Fair (S.take j) :=
  ⟨Nat.le_trans (by simp; omega) h.len, fun o ho => h.vals o (List.mem_of_mem_take ho), fun o ho => h.str o (List.mem_of_mem_take ho), fun o ho => h.room o (List.mem_of_mem_take ho)⟩

theorem sumB_le' {In : List Bool} {S : List Om} (hf : Fair S) : sumB In S ≤ 2305843013508661248 := by
  have h1 := sumB_le (In := In) hf
  have h2 := hf.len
  have : S.length * 2199023255556 ≤ 1048576 * 2199023255556 := Nat.mul_le_mul_right _ h2
  omega

set_option maxRecDepth 20000 in
set_option maxHeartbeats 4000000 in
theorem rWords_in {p q : Option Addr} {S : List Om} {roots : List Vl} (c cq : Nat) (hs : IsSt w p S) (hf : Fair S) (hv : Vals w q roots) (hr : roots.length ≤ 100000) (hq0 : q = none → cq = 0) :
    Calls Try.prog 12 #[.slice p S.length c, .slice q roots.length cq] w fun e w' => e = .returned (.int .i64 (wordsR S roots : Nat)) ∧ Below w.heap.size w w' := by
  have hlen := hf.len
  have H1 := reached_in c cq hs hf.len hf.vals hv hr hq0
  go_enter Try.func12, Try.ntmps12
  go_wp2_with (first
    | (go_at_call 22; refine H1.mono ?_; clear H1; rintro e w1 ⟨bi, In, rfl, hIn, hway, hB1⟩))
  have hil := hway.len
  have hbl : bi < w1.heap.size := (Array.getElem?_eq_some_iff.1 hIn).1
  go_loopw [6, 7] (fun n k wr => ∃ j : Nat, k = .int .i64 j ∧ j ≤ S.length ∧ n = .int .i64 (sumB (In.take j) (S.take j) : Nat) ∧ Below w1.heap.size w1 wr) (fun _ k _ => S.length - (intOf k).toNat)
  case atStart => exact ⟨0, rfl, by omega, rfl, Below.refl _ _⟩
  case round =>
    obtain ⟨j, rfl, hj, rfl, hB⟩ := hrel
    have hB0 : Below w.heap.size w wr := hB1.trans (hB.mono hB1.size)
    have hIn' := hIn.kept (hB.block _ hbl)
    by_cases hjn : j < S.length
    · obtain ⟨b, hb⟩ : ∃ b, In[j]? = some b := ⟨In[j]'(by omega), by simp⟩
      obtain ⟨o, ho⟩ : ∃ o, S[j]? = some o := ⟨S[j], by simp⟩
      obtain ⟨hc, -⟩ := hIn'.cell hb
      have hst := sumB_take hil hb ho
      have hle := sumB_le' (In := In.take j) (hf.take j)
      have hjn' : (j : Int) < (S.length : Int) := by omega
      have HS : Hid _ := hst
      clear hst
      generalize hn : sumB (In.take j) (S.take j) = n at *
      cases b with
      | false =>
        clear hb ho hn
        go_wp2
        go_roundw
        case rel => exact ⟨j + 1, by simp, by omega, by rw [HS.out]; simp, hB⟩
        case measure => simp [intOf]; omega
      | true =>
        have hm : Marked In ((j : Int) + 1) := ⟨by omega, by rw [show ((j : Int) + 1 - 1).toNat = j by omega]; exact hb⟩
        obtain ⟨-, -, o', ho', hk3, hk7⟩ := (hway.rch _ hm).num
        have : o' = o := by
          unfold objAt at ho'
          rw [if_pos (by omega), show ((j : Int) + 1 - 1).toNat = j by omega, ho] at ho'
          cases ho'; rfl
        subst this
        have hoS := List.mem_of_getElem? ho
        have f1 := hf.vals _ hoS; have f2 := hf.str _ hoS; have f3 := hf.room _ hoS
        obtain ⟨b0, off, rfl, c0, c1, ⟨qo, co, c2, hvo, -⟩, c3, c4⟩ := hs.look hB0 ho
        obtain ⟨⟨d0, d1, d2, d3, d4⟩, -⟩ := cell_row5 (set5_row (x0 := .int .u8 o'.k) (x1 := .string o'.s) (x2 := .slice qo o'.l.length co) (x3 := .int .i64 o'.room) (x4 := .int .i64 o'.fn) (heap_alloc_new wr (.cells #[.int .u8 0, .string ⟨#[]⟩, .slice none 0 0, .int .i64 0, .int .i64 0] 33)))
        have hcases : o'.k = 3 ∨ (o'.k = 4 ∧ 0 < o'.room) ∨ (o'.k = 4 ∧ ¬ 0 < o'.room) ∨ (o'.k = 5 ∧ 0 < o'.room) ∨ (o'.k = 5 ∧ ¬ 0 < o'.room) ∨ o'.k = 6 ∨ o'.k = 7 := by omega
        clear hb ho hn hm ho' hk3 hk7 hvo hoS hway hs hf hv hIn hIn'
        rcases hcases with h | ⟨h, h'⟩ | ⟨h, h'⟩ | ⟨h, h'⟩ | ⟨h, h'⟩ | h | h
        all_goals
          have HK : Hid _ := h
          rw [h] at d0 c0
          rw [h] at d1 d2 d3 d4
          clear h
          go_wp2
          go_roundw
          case rel => refine ⟨j + 1, by simp, by omega, ?_, hB.alloc hB.size _⟩; rw [HS.out]; unfold wordsO; rw [HK.out]; simp; try (first | omega | (split <;> omega))
          case measure => simp [intOf]; omega
    · have hjn' : ¬ ((j : Int) < (S.length : Int)) := by omega
      have e : sumB (In.take j) (S.take j) = wordsR S roots := by
        rw [List.take_of_length_le (by omega), List.take_of_length_le (by omega)]
        exact hway.sum
      rw [e]
      clear hf
      go_wp2
      go_ret
      exact ⟨rfl, hB0⟩

end Go.Proofs.Ytppjahnahomkeaa
