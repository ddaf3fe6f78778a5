/- show's lead and words. -/
import Derived.Test.YtgokofomoachaaaShMem
namespace Go.Proofs.Ytgokofomoachaaa
set_option linter.unusedVariables false
set_option linter.unusedSimpArgs false
open Go.RowKit

variable {w : World}

theorem infoO : (Try.prog.info? 39).map (·.size) = some 5 := by kernel_rfl

def noObj : Value := .agg #[.int .u8 0, .string ⟨#[]⟩, .slice none 0 0, .int .i64 0, .int .i64 0]

def objV (o : Om) (q : Option Addr) (c : Nat) : Value := .agg #[.int .u8 o.k, .string o.s, .slice q o.l.length c, .int .i64 o.room, .int .i64 o.fn]

set_option maxHeartbeats 1000000 in
theorem lead_out {p : Option Addr} {S : List Om} (c : Nat) (k : Nat) (n : Int) (hd : (decide ((k : Int) < 3) || decide (7 < (k : Int)) || decide (n < 1) || decide ((S.length : Int) < n)) = true) :
    Calls Try.prog 61 #[.slice p S.length c, .agg #[.int .u8 k, .int .i64 n]] w fun e w' => Below w.heap.size w w' ∧ e = .returned (.tuple #[noObj, .bool false]) := by
  unfold noObj
  go_enter Try.func61, Try.ntmps61
  go_wp2
  all_goals
    refine bodyPost_ret (results_row_tmp (by rfl) _ _ (w.heap.size + 1) 39 #[.int .u8 0, .string ⟨#[]⟩, .slice none 0 0, .int .i64 0, .int .i64 0] (0, 0) _ (by rfl) (heap_two _ _ _) Try.underlying39 (by rfl) infoO) (by rfl) ?_
    exact ⟨below2' _ _ _, rfl⟩

set_option maxHeartbeats 1000000 in
theorem lead_at0 {w0 : World} {p : Option Addr} {S : List Om} (c : Nat) (hs : IsSt w0 p S) (hB : Below w0.heap.size w0 w) (k : Nat) (n : Int) (i : Nat) (o : Om) (hl : S.length ≤ maxLen) (hk : 3 ≤ k) (hk7 : k ≤ 7) (hn : n = i + 1) (ho : S[i]? = some o) (hok : o.k = k) :
    Calls Try.prog 61 #[.slice p S.length c, .agg #[.int .u8 k, .int .i64 n]] w fun e w' => Below w.heap.size w w' ∧ ∃ q c, e = .returned (.tuple #[objV o q c, .bool true]) ∧ Vals w0 q o.l := by
  have hlt := (List.getElem?_eq_some_iff.1 ho).1
  obtain ⟨b0, off, rfl, c0, c1, ⟨q, cq, c2, hv⟩, c3, c4⟩ := hs.look (hB.trans ((below2' w (.cells #[.int .u8 k, .int .i64 n] 26) (.cells #[.int .u8 0, .string ⟨#[]⟩, .slice none 0 0, .int .i64 0, .int .i64 0] 39)).mono hB.size)) ho
  have h1 : ¬ ((k : Int) < 3) := by omega
  have h2 : ¬ (7 < (k : Int)) := by omega
  have h3 : ¬ (n < 1) := by omega
  have h4 : ¬ ((S.length : Int) < n) := by omega
  have hw : IntKind.i64.wrap (n - 1) = i := by rw [IntKind.wrap_i64]; unfold maxLen at hl; omega
  have hi : (i : Int) < (S.length : Int) := by omega
  unfold objV
  clear hs ho hn
  go_enter Try.func61, Try.ntmps61
  go_wp2
  refine bodyPost_ret (results_row_tmp (by rfl) _ _ (w.heap.size + 1) 39 #[.int .u8 k, .string o.s, .slice q o.l.length cq, .int .i64 o.room, .int .i64 o.fn] (0, 0) _ (by rfl) (heap3_1 _ _ _ _) Try.underlying39 (by rfl) infoO) (by rfl) ?_
  exact ⟨below3' _ _ _ _, q, ⟨cq, rfl⟩, hv.1⟩

theorem lead_at {p : Option Addr} {S : List Om} (c : Nat) (hs : IsSt w p S) (k : Nat) (n : Int) (i : Nat) (o : Om) (hl : S.length ≤ maxLen) (hk : 3 ≤ k) (hk7 : k ≤ 7) (hn : n = i + 1) (ho : S[i]? = some o) (hok : o.k = k) :
    Calls Try.prog 61 #[.slice p S.length c, .agg #[.int .u8 k, .int .i64 n]] w fun e w' => Below w.heap.size w w' ∧ ∃ q c, e = .returned (.tuple #[objV o q c, .bool true]) ∧ Vals w q o.l :=
  lead_at0 c hs (Below.refl _ _) k n i o hl hk hk7 hn ho hok

set_option maxHeartbeats 1000000 in
theorem lead_off {p : Option Addr} {S : List Om} (c : Nat) (hs : IsSt w p S) (k : Nat) (n : Int) (i : Nat) (o : Om) (hl : S.length ≤ maxLen) (hk : 3 ≤ k) (hk7 : k ≤ 7) (hn : n = i + 1) (ho : S[i]? = some o) (hok : o.k ≠ k) :
    Calls Try.prog 61 #[.slice p S.length c, .agg #[.int .u8 k, .int .i64 n]] w fun e w' => Below w.heap.size w w' ∧ e = .returned (.tuple #[noObj, .bool false]) := by
  have hlt := (List.getElem?_eq_some_iff.1 ho).1
  obtain ⟨b0, off, rfl, c0, c1, ⟨q, cq, c2, hv⟩, c3, c4⟩ := hs.look (below2' w (.cells #[.int .u8 k, .int .i64 n] 26) (.cells #[.int .u8 0, .string ⟨#[]⟩, .slice none 0 0, .int .i64 0, .int .i64 0] 39)) ho
  have h1 : ¬ ((k : Int) < 3) := by omega
  have h2 : ¬ (7 < (k : Int)) := by omega
  have h3 : ¬ (n < 1) := by omega
  have h4 : ¬ ((S.length : Int) < n) := by omega
  have hw : IntKind.i64.wrap (n - 1) = i := by rw [IntKind.wrap_i64]; unfold maxLen at hl; omega
  have hi : (i : Int) < (S.length : Int) := by omega
  have hne : ((o.k : Int) == (k : Int)) = false := by simp; omega
  unfold noObj
  clear hs ho hn hok
  go_enter Try.func61, Try.ntmps61
  go_wp2
  refine bodyPost_ret (results_row_tmp (by rfl) _ _ (w.heap.size + 1) 39 #[.int .u8 0, .string ⟨#[]⟩, .slice none 0 0, .int .i64 0, .int .i64 0] (0, 0) _ (by rfl) (heap3_1 _ _ _ _) Try.underlying39 (by rfl) infoO) (by rfl) ?_
  exact ⟨below3' _ _ _ _, rfl⟩

/-- lead, whole. -/
theorem lead_in {p : Option Addr} {S : List Om} (c : Nat) (hs : IsSt w p S) (hl : S.length ≤ maxLen) (v : Vl) :
    Calls Try.prog 61 #[.slice p S.length c, .agg #[.int .u8 v.k, .int .i64 v.n]] w fun e w' => Below w.heap.size w w' ∧
      ((leadO S v = none ∧ e = .returned (.tuple #[noObj, .bool false])) ∨ ∃ o q c, leadO S v = some o ∧ e = .returned (.tuple #[objV o q c, .bool true]) ∧ Vals w q o.l) := by
  by_cases hc : 3 ≤ v.k ∧ v.k ≤ 7 ∧ 1 ≤ v.n ∧ v.n ≤ S.length
  · obtain ⟨h1, h2, h3, h4⟩ := hc
    have hi : (v.n - 1).toNat < S.length := by omega
    have ho : S[(v.n - 1).toNat]? = some S[(v.n - 1).toNat] := by simp [hi]
    have hn : v.n = ((v.n - 1).toNat : Int) + 1 := by omega
    by_cases hok : (S[(v.n - 1).toNat]).k = v.k
    · have e : leadO S v = some S[(v.n - 1).toNat] := by
        unfold leadO
        rw [if_pos ⟨h1, h2, h3, h4⟩, ho]
        exact if_pos hok
      refine (lead_at c hs v.k v.n _ _ hl h1 h2 hn ho hok).mono ?_
      rintro e' w' ⟨hB, q, c, rfl, hv⟩
      exact ⟨hB, .inr ⟨_, q, c, e, rfl, hv⟩⟩
    · have e : leadO S v = none := by
        unfold leadO
        rw [if_pos ⟨h1, h2, h3, h4⟩, ho]
        exact if_neg hok
      refine (lead_off c hs v.k v.n _ _ hl h1 h2 hn ho hok).mono ?_
      rintro e' w' ⟨hB, rfl⟩
      exact ⟨hB, .inl ⟨e, rfl⟩⟩
  · have e : leadO S v = none := by unfold leadO; rw [if_neg hc]
    refine (lead_out c v.k v.n ?_).mono ?_
    · have : (v.k : Int) < 3 ∨ 7 < (v.k : Int) ∨ v.n < 1 ∨ (S.length : Int) < v.n := by omega
      rcases this with h | h | h | h <;> simp [h]
    · rintro e' w' ⟨hB, rfl⟩
      exact ⟨hB, .inl ⟨e, rfl⟩⟩

theorem lead_none {p : Option Addr} {S : List Om} {c : Nat} (hs : IsSt w p S) (hl : S.length ≤ maxLen) {v : Vl} (h : leadO S v = none) :
    Calls Try.prog 61 #[.slice p S.length c, .agg #[.int .u8 v.k, .int .i64 v.n]] w fun e w' => Below w.heap.size w w' ∧ e = .returned (.tuple #[noObj, .bool false]) := by
  refine (lead_in c hs hl v).mono ?_
  rintro e w' ⟨hB, ⟨_, rfl⟩ | ⟨o, q, c, h2, _⟩⟩
  · exact ⟨hB, rfl⟩
  · rw [h] at h2; cases h2

theorem lead_some {p : Option Addr} {S : List Om} {c : Nat} (hs : IsSt w p S) (hl : S.length ≤ maxLen) {v : Vl} {o : Om} (h : leadO S v = some o) :
    Calls Try.prog 61 #[.slice p S.length c, .agg #[.int .u8 v.k, .int .i64 v.n]] w fun e w' => Below w.heap.size w w' ∧ ∃ q c, e = .returned (.tuple #[objV o q c, .bool true]) ∧ Vals w q o.l := by
  refine (lead_in c hs hl v).mono ?_
  rintro e w' ⟨hB, ⟨h2, _⟩ | ⟨o', q, c, h2, rfl, hv⟩⟩
  · rw [h] at h2; cases h2
  · rw [h] at h2
    cases h2
    exact ⟨hB, q, c, rfl, hv⟩

theorem lead_some0 {w0 : World} {p : Option Addr} {S : List Om} {c : Nat} (hs : IsSt w0 p S) (hB : Below w0.heap.size w0 w) (hl : S.length ≤ maxLen) {v : Vl} {o : Om} (h : leadO S v = some o) :
    Calls Try.prog 61 #[.slice p S.length c, .agg #[.int .u8 v.k, .int .i64 v.n]] w fun e w' => Below w.heap.size w w' ∧ ∃ q c, e = .returned (.tuple #[objV o q c, .bool true]) ∧ Vals w0 q o.l := by
  obtain ⟨h3, h7, hok, i, hn, -, ho⟩ := leadO_some h
  exact lead_at0 c hs hB v.k v.n i o hl h3 h7 hn ho hok

/-- How many words an object has. -/
def wordsO (o : Om) : Nat :=
  if o.k = 3 then 2 + (o.s.size + 7) / 8
  else if o.k = 6 then 2 + 2 * o.l.length
  else if (o.k = 4 ∨ o.k = 5) ∧ 0 < o.room then 4 + 2 * o.room.toNat
  else 3

set_option maxHeartbeats 1000000 in
theorem words_in (o : Om) (q : Option Addr) (c : Nat) (w : World) (hs : o.s.size ≤ 1048576) (hl : o.l.length ≤ 1048576) (hr : o.room ≤ 1099511627776) :
    Calls Try.prog 75 #[objV o q c] w fun e w' => Below w.heap.size w w' ∧ e = .returned (.int .i64 (wordsO o : Nat)) := by
  unfold objV
  by_cases h3 : o.k = 3
  · have e : wordsO o = 2 + (o.s.size + 7) / 8 := by unfold wordsO; rw [if_pos h3]
    rw [e, h3]
    have e2 : ((2 + (o.s.size + 7) / 8 : Nat) : Int) = 2 + ((o.s.size : Int) + 7) / 8 := by omega
    rw [e2]
    clear e e2 h3
    go_enter Try.func75, Try.ntmps75
    go_wp2
    go_ret
    exact ⟨below1 _ _, rfl⟩
  · have b3 : ¬ ((o.k : Int) = 3) := by omega
    by_cases h6 : o.k = 6
    · have e : wordsO o = 2 + 2 * o.l.length := by unfold wordsO; rw [if_neg h3, if_pos h6]
      rw [e, h6]
      have e2 : ((2 + 2 * o.l.length : Nat) : Int) = 2 + 2 * (o.l.length : Int) := by omega
      rw [e2]
      clear e e2 h3 h6 b3
      go_enter Try.func75, Try.ntmps75
      go_wp2
      go_ret
      exact ⟨below1 _ _, rfl⟩
    · have b6 : ¬ ((o.k : Int) = 6) := by omega
      by_cases h4 : (o.k = 4 ∨ o.k = 5) ∧ 0 < o.room
      · have e : wordsO o = 4 + 2 * o.room.toNat := by unfold wordsO; rw [if_neg h3, if_neg h6, if_pos h4]
        have e2 : ((4 + 2 * o.room.toNat : Nat) : Int) = 4 + 2 * o.room := by omega
        rw [e, e2]
        have hr0 := h4.2
        rcases h4.1 with h | h
        all_goals
          rw [h]
          clear e e2 h3 h6 b3 b6 h4 h
          go_enter Try.func75, Try.ntmps75
          go_wp2
          go_ret
          exact ⟨below1 _ _, rfl⟩
      · have e : wordsO o = 3 := by unfold wordsO; rw [if_neg h3, if_neg h6, if_neg h4]
        rw [e]
        by_cases h : o.k = 4 ∨ o.k = 5
        · have hr0 : ¬ (0 < o.room) := fun x => h4 ⟨h, x⟩
          rcases h with h | h
          all_goals
            rw [h]
            clear e h3 h6 b3 b6 h4 h
            go_enter Try.func75, Try.ntmps75
            go_wp2
            go_ret
            exact ⟨below1 _ _, rfl⟩
        · have b4 : ¬ ((o.k : Int) = 4) := by omega
          have b5 : ¬ ((o.k : Int) = 5) := by omega
          clear e h3 h6 h4 h
          go_enter Try.func75, Try.ntmps75
          go_wp2
          go_ret
          exact ⟨below1 _ _, rfl⟩

end Go.Proofs.Ytgokofomoachaaa
