/- The document's Leads and reached. -/
import Derived.Test.YtppjahnahomkeaaDoorShTour
import Derived.Laws.AppendOwnNone
import Derived.BigQuiet
namespace Go.Proofs.YtppjahnahomkeaaDoor
set_option linter.unusedVariables false
set_option linter.unusedSimpArgs false
open Go.RowKit

variable {w : World}

/-- The place that a value leads to. -/
def leadI (S : List Om) (v : Vl) : Int := match leadO S v with | none => -1 | some _ => v.n - 1

theorem leadO_eq {S : List Om} {v : Vl} {i : Nat} {o : Om} (h1 : 3 ≤ v.k) (h2 : v.k ≤ 7) (hn : v.n = i + 1) (ho : S[i]? = some o) : leadO S v = if o.k = v.k then some o else none := by
  have hi := (List.getElem?_eq_some_iff.1 ho).1
  unfold leadO
  rw [if_pos ⟨h1, h2, by omega, by omega⟩, show (v.n - 1).toNat = i by omega, ho]

set_option maxHeartbeats 1000000 in
theorem rLeads_in {p : Option Addr} {S : List Om} (c : Nat) (hs : IsSt w p S) (hl : S.length ≤ 1048576) (v : Vl) :
    Calls Tryd.prog 40 #[.slice p S.length c, .agg #[.int .u8 v.k, .int .i64 v.n]] w fun e w' => Below w.heap.size w w' ∧ e = .returned (.int .i64 (leadI S v)) := by
  by_cases hc : 3 ≤ v.k ∧ v.k ≤ 7 ∧ 1 ≤ v.n ∧ v.n ≤ S.length
  · obtain ⟨h1, h2, h3, h4⟩ := hc
    obtain ⟨i, o, hn, hi, ho⟩ : ∃ (i : Nat) (o : Om), v.n = i + 1 ∧ i < S.length ∧ S[i]? = some o := ⟨(v.n - 1).toNat, S[(v.n - 1).toNat]'(by omega), by omega, by omega, by simp⟩
    obtain ⟨b0, off, rfl, c0, c1, ⟨q, cq, c2, hv⟩, c3, c4⟩ := hs.look (below1 w (.cells #[.int .u8 v.k, .int .i64 v.n] 26)) ho
    have hle := leadO_eq h1 h2 hn ho
    have g1 : decide ((v.k : Int) < 3) = false := by simp; omega
    have g2 : decide (7 < (v.k : Int)) = false := by simp; omega
    have g3 : decide (v.n < 1) = false := by simp; omega
    have g4 : decide ((S.length : Int) < v.n) = false := by simp; omega
    have hii : (i : Int) < (S.length : Int) := by omega
    have hw : IntKind.i64.wrap (v.n - 1) = (i : Int) := by rw [IntKind.wrap_i64]; omega
    obtain ⟨v0, v1⟩ := cell_row2 (heap_alloc_new w (.cells #[.int .u8 v.k, .int .i64 v.n] 26))
    by_cases hok : o.k = v.k
    · have e : leadI S v = (i : Int) := by
        unfold leadI; rw [hle, if_pos hok]; show v.n - 1 = _; omega
      rw [e]
      rw [hok] at c0
      clear hs ho hv e h3 h4 hi hok hn hle
      go_enter Tryd.func40, Tryd.ntmps40
      go_wp2
      go_quiet (fail)
      go_wp2
      go_ret
      exact ⟨below_drewN' (below1 _ _) _, rfl⟩
    · have e : leadI S v = -1 := by
        unfold leadI; rw [hle, if_neg hok]
      rw [e]
      have hkb : ¬ ((o.k : Int) = (v.k : Int)) := by omega
      clear hs ho hv e h3 h4 hi hok hn hle
      go_enter Tryd.func40, Tryd.ntmps40
      go_wp2
      go_quiet (fail)
      go_wp2
      all_goals first
        | (exfalso; simp_all; done)
        | (go_ret; exact ⟨below_drewN' (below1 _ _) _, rfl⟩)
  · have e : leadI S v = -1 := by
      have : leadO S v = none := by unfold leadO; rw [if_neg hc]
      unfold leadI; rw [this]
    rw [e]
    obtain ⟨v0, v1⟩ := cell_row2 (heap_alloc_new w (.cells #[.int .u8 v.k, .int .i64 v.n] 26))
    have hd : decide ((v.k : Int) < 3) = true ∨ (decide ((v.k : Int) < 3) = false ∧ decide (7 < (v.k : Int)) = true) ∨ (decide ((v.k : Int) < 3) = false ∧ decide (7 < (v.k : Int)) = false ∧ decide (v.n < 1) = true) ∨ (decide ((v.k : Int) < 3) = false ∧ decide (7 < (v.k : Int)) = false ∧ decide (v.n < 1) = false ∧ decide ((S.length : Int) < v.n) = true) := by simp only [decide_eq_true_eq, decide_eq_false_iff_not]; omega
    clear e hc hs
    rcases hd with h | ⟨h, h'⟩ | ⟨h, h', h''⟩ | ⟨h, h', h'', h3⟩
    all_goals
      go_enter Tryd.func40, Tryd.ntmps40
      go_wp2
      go_quiet (fail)
      go_wp2
      go_ret
      exact ⟨below_drewN' (below1 _ _) _, rfl⟩

end Go.Proofs.YtppjahnahomkeaaDoor
