/- object's memory: a heap embedded; what stands in it. -/
import Derived.Test.YtligpokpdahifaaMore
import Derived.Test.YtligpokpdahifaaGcLeads
import Derived.Laws.ResultCell
namespace Go.Proofs.Ytligpokpdahifaa
set_option linter.unusedVariables false
set_option linter.unusedSimpArgs false
open Go.RowKit

variable {n₀ bh b lim used : Nat} {vw vb : Value} {w : World} {M : List Ob}

/-- A memory over the heap at a block. -/
def mem (bh : Nat) : Value := .agg #[.pointer (some ⟨bh, 0, none⟩)]

theorem results_row_tmp {P : Program} {fn : Func} {p u : Tmp} {ty : TypeId} (h : fn.results = #[.cell p ty, .tmp u]) (tmps : Array Value) (w : World) (g : Nat) (t : TypeId) (cs : Array Value) (fr : Nat × Nat) (d : TypeDesc)
    (hp : tmps.getD p undef = .pointer (some ⟨g, 0, none⟩)) (hg : w.heap[g]? = some (.cells cs t fr))
    (hu : P.underlying ty = some d) (hd : (match d with | .struct _ | .array _ _ => true | _ => false) = true) (hi : (P.info? ty).map (·.size) = some cs.size) :
    (results fn tmps).run P w = .ok (.tuple #[.agg cs, tmps.getD u undef]) w := by
  rw [results_cell_tmp h]
  rw [hp]
  simp [asAddr, run_loadVar_row w g t ty cs fr d hg hu hd hi, Result.andThen]

set_option maxHeartbeats 400000 in
theorem othere_in (h : Hp n₀ bh b vw vb w lim used M) (hl : 1 ≤ lim) : Calls Try.prog 21 #[mem bh] w fun e w' => e = .returned (.bool true) ∧ Below w.heap.size w w' := by
  have H1 := wordsM (h.below (below1 w (.cells #[.pointer (some ⟨bh, 0, none⟩)] 55)))
  have hl' : (0 : Int) < (lim : Int) := by omega
  unfold mem
  go_enter Try.func21, Try.ntmps21
  go_wp2_with (first
    | (go_at_call 39; refine H1.mono ?_; clear H1; rintro e w' ⟨rfl, hw'⟩; obtain rfl := hw'.symm))
  go_ret
  have hd : decide (0 < lim) = true := by simp; omega
  exact ⟨by rw [← hd]; rfl, below1 _ _⟩

set_option maxHeartbeats 400000 in
theorem oword_in {l r : List Ob} {o : Ob} (h : Hp n₀ bh b vw vb w lim used (l ++ o :: r)) (i : Nat) : Calls Try.prog 46 #[mem bh, .int .i64 o.at_, .int .i64 i] w fun e w' => e = .returned (.int .u64 (o.ws.getD i 0 : Nat)) ∧ Below w.heap.size w w' := by
  have hb := h.below (below1 w (.cells #[.pointer (some ⟨bh, 0, none⟩)] 55))
  cases hi : o.ws[i]? with
  | none =>
    have e : o.ws.getD i 0 = 0 := by simp [List.getD, hi]
    rw [e]
    have H1 := readM_out hb i (.inr (by rw [List.getElem?_eq_none_iff] at hi; omega))
    unfold mem
    go_enter Try.func46, Try.ntmps46
    go_wp2_with (first
      | (go_at_call 73; refine H1.mono ?_; clear H1; rintro e w' ⟨rfl, hw'⟩; obtain rfl := hw'.symm))
    go_ret
    exact ⟨rfl, below1 _ _⟩
  | some y =>
    have e : o.ws.getD i 0 = y := by simp [List.getD, hi]
    rw [e]
    have H1 := readM hb i y hi
    unfold mem
    go_enter Try.func46, Try.ntmps46
    go_wp2_with (first
      | (go_at_call 73; refine H1.mono ?_; clear H1; rintro e w' ⟨rfl, hw'⟩; obtain rfl := hw'.symm))
    go_ret
    exact ⟨rfl, below1 _ _⟩

set_option maxHeartbeats 400000 in
theorem otells_in (k : Nat) (w : World) : Calls Try.prog 82 #[.int .u8 k] w fun e w' => e = .returned (.bool (decide (3 ≤ k ∧ k ≤ 7))) ∧ w' = w := by
  by_cases h1 : (3 : Int) ≤ (k : Int)
  · by_cases h2 : (k : Int) ≤ 7
    · have e : decide (3 ≤ k ∧ k ≤ 7) = true := by simp; omega
      rw [e]
      clear e
      go_enter Try.func82, Try.ntmps82
      go_wp2
      go_ret
      exact ⟨rfl, rfl⟩
    · have e : decide (3 ≤ k ∧ k ≤ 7) = false := by simp; omega
      rw [e]
      clear e
      go_enter Try.func82, Try.ntmps82
      go_wp2
      go_ret
      exact ⟨rfl, rfl⟩
  · have e : decide (3 ≤ k ∧ k ≤ 7) = false := by simp; omega
    rw [e]
    clear e
    go_enter Try.func82, Try.ntmps82
    go_wp2
    go_ret
    exact ⟨rfl, rfl⟩

theorem below2' (w : World) (o1 o2 : Obj) : Below w.heap.size w ((w.alloc o1).alloc o2) := (below1 w o1).alloc (by simp) _

set_option maxRecDepth 20000 in
set_option maxHeartbeats 1000000 in
theorem oleads_in (h : Hp n₀ bh b vw vb w lim used M) (k : Nat) (n : Int) :
    Calls Try.prog 68 #[mem bh, .agg #[.int .u8 k, .int .i64 n]] w fun e w' => e = .returned (.bool (decide (Leads M k n))) ∧ Below w.heap.size w w' := by
  have ht := fun w => otells_in k w
  unfold mem
  by_cases hk : 3 ≤ k ∧ k ≤ 7
  · have e0 : decide (3 ≤ k ∧ k ≤ 7) = true := by simpa using hk
    rw [e0] at ht
    rcases at_cases M n with hn | ⟨l, o, r, rfl, rfl⟩
    · have e1 : decide (Leads M k n) = false := by
        simp only [decide_eq_false_iff_not]
        rintro ⟨_, _, o, ho, e, _⟩
        exact hn o ho e
      rw [e1]
      have hq := fun w' (hB : Below w.heap.size w w') => kindM_none (h.below hB) n hn
      clear e0 e1 hn hk
      go_enter Try.func68, Try.ntmps68
      go_wp2_with (first
        | (go_at_call 82; refine (ht _).mono ?_; rintro e w' ⟨rfl, hw'⟩; obtain rfl := hw'.symm)
        | (go_at_call 83; refine (hq _ (below2' _ _ _)).mono ?_; rintro e w' ⟨rfl, hw'⟩; obtain rfl := hw'.symm))
      go_ret
      exact ⟨rfl, below2' _ _ _⟩
    · have hm : o ∈ l ++ o :: r := by simp
      have hq := fun w' (hB : Below w.heap.size w w') => kindM (h.below hB)
      by_cases hok : o.kind = k
      · have e1 : decide (Leads (l ++ o :: r) k o.at_) = true := by
          simp only [decide_eq_true_eq]
          exact (leads_iff h.srt.1 hm k).2 ⟨hk.1, hk.2, hok⟩
        rw [e1]
        subst hok
        clear e0 e1 hk
        go_enter Try.func68, Try.ntmps68
        go_wp2_with (first
          | (go_at_call 82; refine (ht _).mono ?_; rintro e w' ⟨rfl, hw'⟩; obtain rfl := hw'.symm)
          | (go_at_call 83; refine (hq _ (below2' _ _ _)).mono ?_; rintro e w' ⟨rfl, hw'⟩; obtain rfl := hw'.symm))
        go_ret
        exact ⟨rfl, below2' _ _ _⟩
      · have e1 : decide (Leads (l ++ o :: r) k o.at_) = false := by
          simp only [decide_eq_false_iff_not]
          intro hh
          exact hok ((leads_iff h.srt.1 hm k).1 hh).2.2
        rw [e1]
        have hne : ((o.kind : Int) == (k : Int)) = false := by simp; omega
        clear e0 e1 hk
        go_enter Try.func68, Try.ntmps68
        go_wp2_with (first
          | (go_at_call 82; refine (ht _).mono ?_; rintro e w' ⟨rfl, hw'⟩; obtain rfl := hw'.symm)
          | (go_at_call 83; refine (hq _ (below2' _ _ _)).mono ?_; rintro e w' ⟨rfl, hw'⟩; obtain rfl := hw'.symm))
        go_ret
        exact ⟨rfl, below2' _ _ _⟩
  · have e0 : decide (3 ≤ k ∧ k ≤ 7) = false := by simp; omega
    rw [e0] at ht
    have e1 : decide (Leads M k n) = false := by
      simp only [decide_eq_false_iff_not]
      rintro ⟨h1, h2, _⟩
      exact hk ⟨h1, h2⟩
    rw [e1]
    clear e0 e1 hk
    go_enter Try.func68, Try.ntmps68
    go_wp2_with (first
      | (go_at_call 82; refine (ht _).mono ?_; rintro e w' ⟨rfl, hw'⟩; obtain rfl := hw'.symm))
    go_ret
    exact ⟨rfl, below2' _ _ _⟩

end Go.Proofs.Ytligpokpdahifaa
