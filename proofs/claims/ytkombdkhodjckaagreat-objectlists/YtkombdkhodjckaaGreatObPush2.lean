/- Lists and maps without words for values: what is found of them. -/
import Derived.Test.YtkombdkhodjckaaGreatObMap
import Derived.Test.YtkombdkhodjckaaGreatObPush
namespace Go.Proofs.YtkombdkhodjckaaGreat
set_option linter.unusedVariables false
set_option linter.unusedSimpArgs false
open Go.RowKit

variable {n₀ bh b lim used : Nat} {vw vb : Value} {w : World} {M : List Ob}

set_option maxRecDepth 20000 in
set_option maxHeartbeats 1000000 in
theorem rowBody_none (h : Hp n₀ bh b vw vb w lim used M) {at_ k : Nat} (ho : ⟨at_, k, [0, 0]⟩ ∈ M) (most : Nat) (hm : most ≤ 131072) :
    Calls Tryz.prog 96 #[mem bh, .int .i64 at_, .int .u64 most] w fun e w' => e = .returned (.tuple #[.agg #[.int .i64 0, .int .i64 0, .int .i64 0, .int .i64 0], .bool true]) ∧ Below w.heap.size w w' := by
  have hb2 := below2' w (.cells #[.pointer (some ⟨bh, 0, none⟩)] 54) (.cells #[.int .i64 0, .int .i64 0, .int .i64 0, .int .i64 0] 58)
  have H1 := fun w' (hB : Below w.heap.size w w') => size_at (h.below hB) ho
  have H2 := fun w' (hB : Below w.heap.size w w') => word_at (h.below hB) ho 0
  have H3 := fun w' (hB : Below w.heap.size w w') => word_at (h.below hB) ho 1
  simp only [List.getD_cons_zero, List.getD_cons_succ, List.length_cons, List.length_nil, Int.natCast_add, Int.natCast_mul, show ((0 : Nat) : Int) = 0 from rfl, show ((1 : Nat) : Int) = 1 from rfl, show ((2 : Nat) : Int) = 2 from rfl, Nat.zero_add, Nat.reduceAdd] at H1 H2 H3
  have hn' : ¬ (most : Int) < 0 := by omega
  unfold mem at H2 H3 ⊢
  go_enter Tryz.func96, Tryz.ntmps96
  go_wp2_with (first
    | (go_at_call 98; refine (H1 _ hb2).mono ?_; rintro e w' ⟨rfl, hw'⟩; obtain rfl := hw'.symm))
  have c0 := cell_row1 (alloc_keeps (heap_alloc_new w (.cells #[.pointer (some ⟨bh, 0, none⟩)] 54)) (.cells #[.int .i64 0, .int .i64 0, .int .i64 0, .int .i64 0] 58))
  go_region_held3 (fun W => W.cell? ⟨w.heap.size, 0, none⟩ = some (.pointer (some ⟨bh, 0, none⟩))) (first | exact c0 | exact c1 | exact c2 | go_keep)
    ((first
      | (go_at_call 89; refine (H2 _ (below_drew hb2)).mono ?_; clear H2; rintro e w1 ⟨rfl, hB1⟩; obtain ⟨m1, m2, hBz⟩ := later2o (w := w) (w1 := w1) ⟨hB1.os, hB1.tape, hB1.output, hB1.size, hB1.block⟩; have c1 := cell_row1 m1)
      | (go_at_call 89; refine (H3 _ hBz).mono ?_; clear H3; rintro e w2 ⟨rfl, hB2⟩; have hBy := hBz.trans (hB2.mono hBz.size); have n1 := (hB2.block _ (Array.getElem?_eq_some_iff.1 m1).1).trans m1; have n2 := (hB2.block _ (Array.getElem?_eq_some_iff.1 m2).1).trans m2; have c2 := cell_row1 n1)))
  all_goals
    obtain ⟨⟨x0, x1, x2, x3⟩, f0, f1, f2, f3⟩ := cell_row4 n2
    go_wp2
    refine bodyPost_ret (results_row_tmp (by rfl) _ _ (w.heap.size + 1) 58 #[.int .i64 0, .int .i64 0, .int .i64 0, .int .i64 0] (0, 0) _ (by rfl) (set4_row n2) Tryz.underlying58 (by rfl) infoBody) (by rfl) ?_
    exact ⟨rfl, below_set4 hBy (by omega) _ _ _ _⟩

set_option maxRecDepth 20000 in
set_option maxHeartbeats 1000000 in
/-- find of a list, by what rowBody tells. -/
theorem find_listG (h : Hp n₀ bh b vw vb w lim used M) {at_ n room inn : Nat} (ho : ∃ o ∈ M, o.at_ = at_ ∧ o.kind = 4)
    (H2 : ∀ w', Below w.heap.size w w' → Calls Tryz.prog 96 #[mem bh, .int .i64 at_, .int .u64 65536] w' fun e w'' => e = .returned (.tuple #[.agg #[.int .i64 n, .int .i64 room, .int .i64 inn, .int .i64 0], .bool true]) ∧ Below w'.heap.size w' w'') :
    Calls Tryz.prog 57 #[mem bh, .agg #[.int .u8 4, .int .i64 at_]] w fun e w' => e = .returned (.tuple #[.agg #[.int .i64 n, .int .i64 room, .int .i64 inn, .int .i64 0], .bool true]) ∧ Below w.heap.size w w' := by
  have hb3 := below3' w (.cells #[.pointer (some ⟨bh, 0, none⟩)] 54) (.cells #[.int .u8 4, .int .i64 at_] 29) (.cells #[.int .i64 0, .int .i64 0, .int .i64 0, .int .i64 0] 58)
  have H1 := oleads_in (h.below hb3) 4 (at_ : Int)
  have ed : decide (Leads M 4 (at_ : Int)) = true := by
    simp only [decide_eq_true_eq]
    obtain ⟨o, h1, h2, h3⟩ := ho
    exact ⟨by omega, by omega, o, h1, by rw [h2], h3⟩
  rw [ed] at H1
  unfold mem at H1 H2 ⊢
  clear ed
  go_enter Tryz.func57, Tryz.ntmps57
  go_wp2_with (first
    | (go_at_call 64; go_loud (refine H1.mono ?_; clear H1; rintro e w1 ⟨rfl, hB1⟩; obtain ⟨c0, ⟨c1, c2⟩, m2, hBz⟩ := later3 hB1))
    | (go_at_call 96; refine (H2 _ hBz).mono ?_; clear H2; rintro e w2 ⟨rfl, hB2⟩; have m3 := (hB2.block _ (Array.getElem?_eq_some_iff.1 m2).1).trans m2; obtain ⟨⟨q0, q1, q2, q3⟩, f0, f1, f2, f3⟩ := cell_row4 m3; have hBy := hBz.trans (hB2.mono hBz.size)))
  refine bodyPost_ret (results_row_tmp (by rfl) _ _ (w.heap.size + 1 + 1) 58 #[.int .i64 n, .int .i64 room, .int .i64 inn, .int .i64 0] (0, 0) _ (by rfl) (set4_row m3) Tryz.underlying58 (by rfl) infoBody) (by rfl) ?_
  exact ⟨rfl, below_set4 hBy (by omega) _ _ _ _⟩

set_option maxRecDepth 20000 in
set_option maxHeartbeats 1000000 in
/-- find of a map, by what rowBody tells. -/
theorem find_mapG (h : Hp n₀ bh b vw vb w lim used M) {at_ n room inn : Nat} (hn : n ≤ 65536) (ho : ∃ o ∈ M, o.at_ = at_ ∧ o.kind = 5)
    (H2 : ∀ w', Below w.heap.size w w' → Calls Tryz.prog 96 #[mem bh, .int .i64 at_, .int .u64 131072] w' fun e w'' => e = .returned (.tuple #[.agg #[.int .i64 (2 * n : Nat), .int .i64 room, .int .i64 inn, .int .i64 0], .bool true]) ∧ Below w'.heap.size w' w'') :
    Calls Tryz.prog 57 #[mem bh, .agg #[.int .u8 5, .int .i64 at_]] w fun e w' => e = .returned (.tuple #[.agg #[.int .i64 (2 * n : Nat), .int .i64 room, .int .i64 inn, .int .i64 0], .bool true]) ∧ Below w.heap.size w w' := by
  have hb3 := below3' w (.cells #[.pointer (some ⟨bh, 0, none⟩)] 54) (.cells #[.int .u8 5, .int .i64 at_] 29) (.cells #[.int .i64 0, .int .i64 0, .int .i64 0, .int .i64 0] 58)
  have H1 := oleads_in (h.below hb3) 5 (at_ : Int)
  have ed : decide (Leads M 5 (at_ : Int)) = true := by
    simp only [decide_eq_true_eq]
    obtain ⟨o, h1, h2, h3⟩ := ho
    exact ⟨by omega, by omega, o, h1, by rw [h2], h3⟩
  rw [ed] at H1
  have em : (((2 * n : Nat) : Int).tmod 2 == 0) = true := by rw [Int.tmod_eq_emod_of_nonneg (by omega)]; simp
  obtain ⟨N, hN⟩ : ∃ N, 2 * n = N := ⟨_, rfl⟩
  rw [hN] at H2 em ⊢
  have HN : Hid _ := hN
  clear ed hN
  unfold mem at H1 H2 ⊢
  go_enter Tryz.func57, Tryz.ntmps57
  go_wp2_with (first
    | (go_at_call 64; go_loud (refine H1.mono ?_; clear H1; rintro e w1 ⟨rfl, hB1⟩; obtain ⟨c0, ⟨c1, c2⟩, m2, hBz⟩ := later3 hB1))
    | (go_at_call 96; refine (H2 _ hBz).mono ?_; clear H2; rintro e w2 ⟨rfl, hB2⟩; have m3 := (hB2.block _ (Array.getElem?_eq_some_iff.1 m2).1).trans m2; have m4 := alloc_keeps m3 (.cells #[.int .i64 N, .int .i64 room, .int .i64 inn, .int .i64 0] 58); obtain ⟨⟨q0, q1, q2, q3⟩, f0, f1, f2, f3⟩ := cell_row4 m4; have hBx := hBz.trans (hB2.mono hBz.size); have hBy := hBx.alloc hBx.size (.cells #[.int .i64 N, .int .i64 room, .int .i64 inn, .int .i64 0] 58)))
  have ⟨⟨r0, r1, r2, r3⟩, _⟩ := cell_row4 (heap_alloc_new w2 (.cells #[.int .i64 N, .int .i64 room, .int .i64 inn, .int .i64 0] 58))
  have hne : w2.heap.size ≠ w.heap.size + 1 + 1 := by have := (Array.getElem?_eq_some_iff.1 m3).1; omega
  have EM : Hid _ := em
  clear em h hb3 hB1 hB2 m2 hBx hBz c0 c1 c2
  go_region_held3 (fun W => W.cell? ⟨w2.heap.size, 0, none⟩ = some (.int .i64 N) ∧ W.cell? ⟨w2.heap.size, 1, none⟩ = some (.int .i64 room) ∧ W.cell? ⟨w2.heap.size, 2, none⟩ = some (.int .i64 inn) ∧ W.cell? ⟨w2.heap.size, 3, none⟩ = some (.int .i64 0)) (first | with_reducible exact ⟨r0, r1, r2, r3⟩ | with_reducible exact ⟨(cell_set4 hne).trans r0, (cell_set4 hne).trans r1, (cell_set4 hne).trans r2, (cell_set4 hne).trans r3⟩ | with_reducible exact ⟨(cell_set4d hne).trans r0, (cell_set4d hne).trans r1, (cell_set4d hne).trans r2, (cell_set4d hne).trans r3⟩ | with_reducible exact ⟨(cell_drew _).trans r0, (cell_drew _).trans r1, (cell_drew _).trans r2, (cell_drew _).trans r3⟩) (fail)
  all_goals
    go_wp2
    refine bodyPost_ret (results_row_tmp (by rfl) _ _ (w.heap.size + 1 + 1) 58 #[.int .i64 N, .int .i64 room, .int .i64 inn, .int .i64 0] (0, 0) _ (by rfl) (set4_row m4) Tryz.underlying58 (by rfl) infoBody) (by rfl) ?_
    refine ⟨?_, below_drew (below_set4 hBy (by omega) _ _ _ _)⟩
    rw [← EM.out]
    rfl

/-- A list, a map with its values. -/
def Rw (M : List Ob) (at_ kind : Nat) (vs : List Vl) (room inn : Nat) : Prop :=
  (∃ o q, RowOb M o q vs.length room ∧ o.at_ = at_ ∧ o.kind = kind ∧ q.at_ = inn ∧ at_ ≠ inn ∧ valsOf q.ws vs.length = vs) ∨ (⟨at_, kind, [0, 0]⟩ ∈ M ∧ vs = [] ∧ room = 0 ∧ inn = 0)

theorem Rw.ob {at_ kind room inn : Nat} {vs : List Vl} (h : Rw M at_ kind vs room inn) : ∃ o ∈ M, o.at_ = at_ ∧ o.kind = kind := by
  rcases h with ⟨o, q, hr, h1, h2, _⟩ | ⟨h1, _⟩
  · exact ⟨o, hr.mem, h1, h2⟩
  · exact ⟨_, h1, rfl, rfl⟩

theorem Rw.body {at_ kind room inn : Nat} {vs : List Vl} (r : Rw M at_ kind vs room inn) (h : Hp n₀ bh b vw vb w lim used M) (most : Nat) (hn : vs.length ≤ most) (hm : most ≤ 131072) :
    Calls Tryz.prog 96 #[mem bh, .int .i64 at_, .int .u64 most] w fun e w' => e = .returned (.tuple #[.agg #[.int .i64 vs.length, .int .i64 room, .int .i64 inn, .int .i64 0], .bool true]) ∧ Below w.heap.size w w' := by
  rcases r with ⟨o, q, hr, rfl, h2, rfl, _⟩ | ⟨h1, rfl, rfl, rfl⟩
  · exact rowBody_in h hr most hn hm
  · exact rowBody_none h h1 most hm

theorem Rw.find4 {at_ room inn : Nat} {vs : List Vl} (r : Rw M at_ 4 vs room inn) (h : Hp n₀ bh b vw vb w lim used M) (hn : vs.length ≤ 65536) :
    Calls Tryz.prog 57 #[mem bh, .agg #[.int .u8 4, .int .i64 at_]] w fun e w' => e = .returned (.tuple #[.agg #[.int .i64 vs.length, .int .i64 room, .int .i64 inn, .int .i64 0], .bool true]) ∧ Below w.heap.size w w' :=
  find_listG h r.ob (fun w' hB => r.body (h.below hB) 65536 hn (by omega))

theorem Rw.find5 {at_ room inn n : Nat} {vs : List Vl} (r : Rw M at_ 5 vs room inn) (h : Hp n₀ bh b vw vb w lim used M) (he : vs.length = 2 * n) (hn : n ≤ 65536) :
    Calls Tryz.prog 57 #[mem bh, .agg #[.int .u8 5, .int .i64 at_]] w fun e w' => e = .returned (.tuple #[.agg #[.int .i64 vs.length, .int .i64 room, .int .i64 inn, .int .i64 0], .bool true]) ∧ Below w.heap.size w w' := by
  rw [he]
  exact find_mapG h hn r.ob (fun w' hB => by have := r.body (h.below hB) 131072 (by omega) (by omega); rw [he] at this; exact this)

theorem Rw.value {at_ kind room inn i : Nat} {vs : List Vl} {v : Vl} (r : Rw M at_ kind vs room inn) (h : Hp n₀ bh b vw vb w lim used M) (hi : vs[i]? = some v) (hi2 : i ≤ 1048576) :
    Calls Tryz.prog 47 #[mem bh, .agg #[.int .i64 vs.length, .int .i64 room, .int .i64 inn, .int .i64 0], .int .i64 i] w fun e w' => e = .returned (.agg #[.int .u8 v.k, .int .i64 v.n]) ∧ Below w.heap.size w w' := by
  rcases r with ⟨o, q, hr, rfl, h2, rfl, _, hv⟩ | ⟨h1, rfl, rfl, rfl⟩
  · have := value_at h hr.memq vs.length room 0 i (by omega) hi2
    have hil := (List.getElem?_eq_some_iff.1 hi).1
    have e : (valsOf q.ws vs.length)[i]? = some v := by rw [hv]; exact hi
    rw [valsOf, List.getElem?_map, List.getElem?_range hil] at e
    simp only [Option.map_some, Option.some.injEq] at e
    rw [Nat.zero_add] at this
    rw [← e]
    exact this
  · simp at hi

end Go.Proofs.YtkombdkhodjckaaGreat

namespace Go.Proofs.YtkombdkhodjckaaGreat
set_option linter.unusedVariables false
set_option linter.unusedSimpArgs false
open Go.RowKit

def Fit (v : Vl) : Prop := v.k < 256 ∧ -9223372036854775808 ≤ v.n ∧ v.n ≤ 9223372036854775807

theorem wrap_n64 {n : Int} (h : -9223372036854775808 ≤ n ∧ n ≤ 9223372036854775807) : wrap64 ((n64 n : Nat) : Int) = n := by
  unfold wrap64 n64; omega

theorem val_lay_same {ws : List Nat} {i : Nat} {v : Vl} (hi : i + 1 < ws.length) (hv : Fit v) : valK (lay ws i v.k v.n) i = v.k ∧ valN (lay ws i v.k v.n) i = v.n := by
  have e1 : (lay ws i v.k v.n).getD i 0 = v.k := by
    unfold lay
    rw [List.getD_eq_getElem?_getD, List.getElem?_set_ne (by omega), List.getElem?_set_self (by omega)]; rfl
  have e2 : (lay ws i v.k v.n).getD (i + 1) 0 = n64 v.n := by
    unfold lay
    rw [List.getD_eq_getElem?_getD, List.getElem?_set_self (by simp; omega)]; rfl
  have h255 : v.k ≤ 255 := by have := hv.1; omega
  unfold valK valN
  rw [e1, e2, if_pos h255, if_pos h255]
  exact ⟨rfl, wrap_n64 hv.2⟩

theorem val_lay_other {ws : List Nat} {i j k : Nat} {n : Int} (h : j + 1 < i ∨ i + 1 < j) : valK (lay ws i k n) j = valK ws j ∧ valN (lay ws i k n) j = valN ws j := by
  have e : ∀ q, q ≠ i → q ≠ i + 1 → (lay ws i k n).getD q 0 = ws.getD q 0 := fun q h1 h2 => by
    unfold lay
    rw [List.getD_eq_getElem?_getD, List.getElem?_set_ne (by omega), List.getElem?_set_ne (by omega), List.getD_eq_getElem?_getD]
  unfold valK valN
  rw [e j (by omega) (by omega), e (j + 1) (by omega) (by omega)]
  exact ⟨rfl, rfl⟩

theorem valsOf_get {ws : List Nat} {n i : Nat} (h : i < n) : (valsOf ws n)[i]? = some ⟨valK ws (2 * i), valN ws (2 * i)⟩ := by
  simp [valsOf, h]

theorem valsOf_ext {ws ws' : List Nat} {n : Nat} (h : ∀ i, i < n → valK ws (2 * i) = valK ws' (2 * i) ∧ valN ws (2 * i) = valN ws' (2 * i)) : valsOf ws n = valsOf ws' n := by
  unfold valsOf
  apply List.map_congr_left
  intro i hi
  have := h i (by simpa using hi)
  rw [this.1, this.2]

theorem valsOf_lay {ws : List Nat} {n : Nat} {v : Vl} (hi : 2 * n + 1 < ws.length) (hv : Fit v) : valsOf (lay ws (2 * n) v.k v.n) (n + 1) = valsOf ws n ++ [v] := by
  rw [valsOf_succ, (val_lay_same hi hv).1, (val_lay_same hi hv).2]
  rw [valsOf_ext (ws' := ws) (fun i h => val_lay_other (by omega))]

theorem valsOf_lays : ∀ (vs : List Vl) (ws : List Nat) (n : Nat), 2 * (n + vs.length) ≤ ws.length → (∀ v ∈ vs, Fit v) → valsOf (lays ws (2 * n) vs) (n + vs.length) = valsOf ws n ++ vs
  | [], ws, n, _, _ => by simp [lays]
  | v :: r, ws, n, h, hv => by
    have h1 := valsOf_lays r (lay ws (2 * n) v.k v.n) (n + 1) (by rw [lay_len]; simp at h; omega) (fun u hu => hv u (by simp [hu]))
    simp only [List.length_cons] at h
    rw [show 2 * (n + 1) = 2 * n + 2 by omega, valsOf_lay (by omega) (hv v (by simp))] at h1
    rw [lays, List.length_cons, show n + (r.length + 1) = n + 1 + r.length by omega, h1]
    simp

theorem valsOf_set {ws : List Nat} {n i : Nat} {v : Vl} (hi : i < n) (hl : 2 * i + 1 < ws.length) (hv : Fit v) : valsOf (lay ws (2 * i) v.k v.n) n = (valsOf ws n).set i v := by
  apply List.ext_getElem?
  intro j
  by_cases hj : j < n
  · rw [valsOf_get hj]
    by_cases e : j = i
    · subst e
      rw [List.getElem?_set_self (by rw [valsOf_len]; exact hj), (val_lay_same hl hv).1, (val_lay_same hl hv).2]
    · rw [List.getElem?_set_ne (by omega), valsOf_get hj, (val_lay_other (i := 2 * i) (j := 2 * j) (by omega)).1, (val_lay_other (i := 2 * i) (j := 2 * j) (by omega)).2]
  · rw [List.getElem?_eq_none (by rw [valsOf_len]; omega), List.getElem?_eq_none (by rw [List.length_set, valsOf_len]; omega)]

theorem lays_zero (n : Nat) (vs : List Vl) (h : vs.length ≤ n) (hv : ∀ v ∈ vs, Fit v) : valsOf (lays (List.replicate (2 * n) 0) 0 vs) vs.length = vs := by
  have := valsOf_lays vs (List.replicate (2 * n) 0) 0 (by simp; omega) hv
  simpa [valsOf] using this

end Go.Proofs.YtkombdkhodjckaaGreat

namespace Go.Proofs.YtkombdkhodjckaaGreat
set_option linter.unusedVariables false
set_option linter.unusedSimpArgs false
open Go.RowKit

variable {n₀ bh b lim used : Nat} {vw vb : Value} {w : World} {M : List Ob}

set_option maxRecDepth 20000 in
set_option maxHeartbeats 1000000 in
theorem push_room (h : Hp n₀ bh b vw vb w lim used M) {o q : Ob} {n room : Nat} (hr : RowOb M o q n room) (hoq : o.at_ ≠ q.at_) (least : Nat) {p : Option Addr} {vs : List Vl} (c : Nat) (hv : ValsT w p vs) (hk8 : ∀ v ∈ vs, v.k < 256) (hg : n + vs.length ≤ room) (hr20 : room ≤ 1048576) :
    Calls Tryz.prog 60 #[mem bh, .int .i64 o.at_, .agg #[.int .i64 n, .int .i64 room, .int .i64 q.at_, .int .i64 0], .int .i64 least, .slice p vs.length c] w fun e w' => e = .returned (.int .i64 0) ∧
      Hp n₀ bh b vw vb w' lim used (put (put M q.at_ (lays q.ws (2 * n) vs)) o.at_ [n + vs.length, q.at_ + 1]) ∧ Step b vw vb w vw vb w' := by
  have hsz := hr.size
  have hb2 := below2' w (.cells #[.pointer (some ⟨bh, 0, none⟩)] 54) (.cells #[.int .i64 n, .int .i64 room, .int .i64 q.at_, .int .i64 0] 58)
  have HV : Hid (∀ k, vw.ownBlock = some k → k < w.heap.size) := fun k e => (h.blocks k (.inr (.inr (.inl e)))).2.1
  have hgi : ¬ (room : Int) < (n : Int) + (vs.length : Int) := by omega
  have H5 := add_at (h.below hb2) hr.mem hr.memq hoq n room c (hv.below hb2) hk8 (by omega) (by rw [hr.ws]; simp)
  have e1 : o.ws.set 0 (n + vs.length) = [n + vs.length, q.at_ + 1] := by rw [hr.ws]; rfl
  rw [e1] at H5
  have c0 := cell_row1 (alloc_keeps (heap_alloc_new w (.cells #[.pointer (some ⟨bh, 0, none⟩)] 54)) (.cells #[.int .i64 n, .int .i64 room, .int .i64 q.at_, .int .i64 0] 58))
  have ⟨⟨x0, x1, x2, x3⟩, _⟩ := cell_row4 (heap_two w (.cells #[.pointer (some ⟨bh, 0, none⟩)] 54) (.cells #[.int .i64 n, .int .i64 room, .int .i64 q.at_, .int .i64 0] 58))
  unfold mem at H5 ⊢
  clear hv
  go_enter Tryz.func60, Tryz.ntmps60
  go_wp2_with (first
    | (go_at_call 55; refine H5.mono ?_; clear H5; rintro e w5 ⟨rfl, hp5, hS5⟩))
  go_ret
  exact ⟨rfl, hp5, Step.belowL hb2 hS5 HV.out⟩

set_option maxRecDepth 20000 in
set_option maxHeartbeats 1000000 in
theorem moved_none (inn : Nat) (w : World) :
    Calls Tryz.prog 100 #[mem bh, .agg #[.int .i64 0, .int .i64 0, .int .i64 0, .int .i64 0], .int .i64 inn] w fun e w' => e = .returned (.agg #[.int .i64 0, .int .i64 0, .int .i64 inn, .int .i64 0]) ∧ KeepT w w' ∧ Below w.heap.size w w' := by
  have hb4 : Below w.heap.size w ((((w.alloc (.cells #[.pointer (some ⟨bh, 0, none⟩)] 54)).alloc (.cells #[.int .i64 0, .int .i64 0, .int .i64 0, .int .i64 0] 58)).alloc (.cells #[.int .i64 0, .int .i64 0, .int .i64 0, .int .i64 0] 58)).alloc (.cells #[.int .i64 0, .int .i64 0, .int .i64 inn, .int .i64 0] 58)) := allocs_below [_, _, _, _] w
  have g := allocs_get [Obj.cells #[.pointer (some ⟨bh, 0, none⟩)] 54, .cells #[.int .i64 0, .int .i64 0, .int .i64 0, .int .i64 0] 58, .cells #[.int .i64 0, .int .i64 0, .int .i64 0, .int .i64 0] 58, .cells #[.int .i64 0, .int .i64 0, .int .i64 inn, .int .i64 0] 58] w
  have HE := each_moved1 bh 0 0 0 0 (by omega) w.heap.size (w.heap.size + 1 + 1 + 1) (fun _ W => Below w.heap.size w W ∧ W.heap[w.heap.size + 1 + 1 + 1]? = some (.cells #[.int .i64 0, .int .i64 0, .int .i64 inn, .int .i64 0] 58 (0, 0)))
    (fun _ _ => False) (fun _ => 0) (fun _ => 0) ((((w.alloc (.cells #[.pointer (some ⟨bh, 0, none⟩)] 54)).alloc (.cells #[.int .i64 0, .int .i64 0, .int .i64 0, .int .i64 0] 58)).alloc (.cells #[.int .i64 0, .int .i64 0, .int .i64 0, .int .i64 0] 58)).alloc (.cells #[.int .i64 0, .int .i64 0, .int .i64 inn, .int .i64 0] 58))
    ⟨hb4, g 3 _ rfl⟩ (fun i w' w'' ⟨r1, r2⟩ hB => ⟨r1.trans (hB.mono r1.size), (hB.block _ (Array.getElem?_eq_some_iff.1 r2).1).trans r2⟩) (fun i w' hi => by omega) (fun i w' hi => by omega)
  unfold mem at HE ⊢
  simp only [show ((0 : Nat) : Int) = 0 from rfl] at HE
  go_enter Tryz.func100, Tryz.ntmps100
  go_wp2_with (first
    | (go_at_call 62; refine HE.mono ?_; clear HE; rintro e w1 ⟨⟨rfl, hb1, n2⟩ | ⟨_, _, _, hF⟩, hK1⟩; have n3 := hK1.body (g 2 _ rfl); obtain ⟨⟨x0, x1, x2, x3⟩, _⟩ := cell_row4 n2; obtain ⟨⟨y0, y1, y2, y3⟩, f0, f1, f2, f3⟩ := cell_row4 n3))
  refine bodyPost_ret (results_cell_row (by rfl) _ _ (w.heap.size + 1 + 1) 58 _ _ _ (by rfl) (set4_row n3) Tryz.underlying58 (by rfl) infoBody) (by rfl) ?_
  have hfin := below_set4 hb1 (show w.heap.size ≤ w.heap.size + 1 + 1 by omega) (.int .i64 0) (.int .i64 0) (.int .i64 inn) (.int .i64 0)
  exact ⟨rfl, KeepT.below hfin, hfin⟩

set_option maxRecDepth 20000 in
set_option maxHeartbeats 1000000 in
theorem push_first (h : Hp n₀ bh b vw vb w lim used M) {at_ kind : Nat} (ho : ⟨at_, kind, [0, 0]⟩ ∈ M) (least : Nat) (hl0 : 0 < least) (hl4 : least ≤ 100) {p : Option Addr} {vs : List Vl} (c : Nat) (hv : ValsT w p vs) (hk8 : ∀ v ∈ vs, v.k < 256) (h0 : 0 < vs.length) (hg2 : vs.length ≤ least) (hf : used + 2 * least + 1 ≤ lim) :
    Calls Tryz.prog 60 #[mem bh, .int .i64 at_, .agg #[.int .i64 0, .int .i64 0, .int .i64 0, .int .i64 0], .int .i64 least, .slice p vs.length c] w fun e w' => e = .returned (.int .i64 0) ∧
      ∃ vw' vb', Hp n₀ bh b vw' vb' w' lim (used + 2 * least + 1) (put (put (M ++ [⟨used, 8, List.replicate (2 * least) 0⟩]) used (lays (List.replicate (2 * least) 0) 0 vs)) at_ [vs.length, used + 1]) ∧ Step b vw vb w vw' vb' w' := by
  have hle := h.le
  have ho1 : at_ < used := by have := h.srt.2 _ ho; unfold Ob.end_ at this; simp at this; omega
  have hb2 := below2' w (.cells #[.pointer (some ⟨bh, 0, none⟩)] 54) (.cells #[.int .i64 0, .int .i64 0, .int .i64 0, .int .i64 0] 58)
  have HV : Hid (∀ k, vw.ownBlock = some k → k < w.heap.size) := fun k e => (h.blocks k (.inr (.inr (.inl e)))).2.1
  have hgi : (0 : Int) < (vs.length : Int) := by omega
  have hlr' : ¬ (least : Int) < 0 := by omega
  have H1 := allocM (h.below hb2) 8 (2 * least) (by omega) (by omega) (by omega)
  simp only [Int.natCast_mul, show ((2 : Nat) : Int) = 2 from rfl] at H1
  have H2 := fun w => moved_none (bh := bh) used w
  unfold mem at H2 ⊢
  go_enter Tryz.func60, Tryz.ntmps60
  go_wp2_with (first
    | (go_at_call 53; refine H1.mono ?_; clear H1; rintro e w2 ⟨rfl, vw2, vb2, hp2, hS2⟩
       have k1 := ((h.below hb2).keepT hS2).mem (alloc_keeps (heap_alloc_new w (.cells #[.pointer (some ⟨bh, 0, none⟩)] 54)) (.cells #[.int .i64 0, .int .i64 0, .int .i64 0, .int .i64 0] 58)); have k2 := ((h.below hb2).keepT hS2).body (heap_two w (.cells #[.pointer (some ⟨bh, 0, none⟩)] 54) (.cells #[.int .i64 0, .int .i64 0, .int .i64 0, .int .i64 0] 58))
       have c0 := cell_row1 k1; have ⟨⟨x0, x1, x2, x3⟩, y0, y1, y2, y3⟩ := cell_row4 k2)
    | (go_at_call 100; refine (H2 _).mono ?_; clear H2; rintro e w3 ⟨rfl, hK3, hB3⟩
       have hp3 := hp2.below hB3
       have hS3 : Step b vw2 vb2 w2 vw2 vb2 w3 := Step.belowL hB3 (Step.refl _ _ _ _) (fun k e => (hp2.blocks k (.inr (.inr (.inl e)))).2.1)
       have k3 := hK3.mem k1; have k4 := hK3.body k2
       have c0 := cell_row1 k3; have ⟨⟨x0, x1, x2, x3⟩, y0, y1, y2, y3⟩ := cell_row4 k4
       have hp3' := hp3.set4 k4 (.int .i64 0) (.int .i64 0) (.int .i64 used) (.int .i64 0)
       have hS3' := step_set4 ((Step.belowL hb2 hS2 HV.out).trans hS3) (show w.heap.size ≤ w.heap.size + 1 by omega) (.int .i64 0) (.int .i64 0) (.int .i64 used) (.int .i64 0)
       have hv3' := ((((hv.below hb2).step (h.below hb2) hS2).step hp2 hS3).set4 k4 (.int .i64 0) (.int .i64 0) (.int .i64 used) (.int .i64 0))
       have k5 := (heap_set4 (W := w3) (show w.heap.size ≠ w.heap.size + 1 by omega) (.int .i64 0) (.int .i64 0) (.int .i64 used) (.int .i64 0)).trans k3
       have k6 := set4_row (x := .int .i64 0) (y := .int .i64 0) (z := .int .i64 used) (u := .int .i64 0) k4
       have c5 := cell_row1 k5
       have H4 := write_at hp3' (o := ⟨at_, kind, [0, 0]⟩) (List.mem_append_left _ ho) 1 (used + 1) (by simp) (by omega)
       simp only [Int.natCast_add, show ((1 : Nat) : Int) = 1 from rfl] at H4)
    | (go_at_call 54; refine H4.mono ?_; clear H4; rintro e w4 ⟨rfl, hp4, hS4⟩
       have k7 := (hp3'.keepT hS4).mem k5; have k8 := (hp3'.keepT hS4).body k6
       have c7 := cell_row1 k7; have ⟨⟨z0, z1, z2, z3⟩, _⟩ := cell_row4 k8
       have H5 := add_at hp4 (o := ⟨at_, kind, [0, used + 1]⟩) (q := ⟨used, 8, List.replicate (2 * least) 0⟩) (put_mem (o := ⟨at_, kind, [0, 0]⟩) (List.mem_append_left _ ho) _) (put_other (by simp) (Nat.ne_of_gt ho1) _) (Nat.ne_of_lt ho1) 0 0 c (hv3'.step hp3' hS4) hk8 (by simp only [List.length_replicate]; omega) (by simp)
       unfold mem at H5
       simp only [show ((0 : Nat) : Int) = 0 from rfl] at H5)
    | (go_at_call 55; refine H5.mono ?_; clear H5; rintro e w5 ⟨rfl, hp5, hS5⟩))
  go_ret
  refine ⟨rfl, vw2, vb2, ?_, (hS3'.trans hS4).trans hS5⟩
  have hfin := hp5
  simp only [Nat.zero_add, Nat.mul_zero, List.set_cons_zero] at hfin
  rw [put_comm (Nat.ne_of_gt ho1), put_put] at hfin
  exact hfin

/-- What is left of the other objects. -/
def Kept (M M' : List Ob) (at_ inn room : Nat) : Prop := ∀ x ∈ M, x.at_ ≠ at_ → (x.at_ ≠ inn ∨ room = 0) → x ∈ M'

theorem Rw.push {at_ kind room inn least : Nat} {vs new : List Vl} (r : Rw M at_ kind vs room inn) (h : Hp n₀ bh b vw vb w lim used M) (hl0 : 0 < least) (hl4 : least ≤ 100) (hr20 : room ≤ 131072) {p : Option Addr} (c : Nat) (hv : ValsT w p new) (hfit : ∀ v ∈ new, Fit v) (h0 : 0 < new.length) (hle : vs.length + new.length ≤ max least (2 * room)) (hf : vs.length + new.length ≤ room ∨ used + 2 * max least (2 * room) + 1 ≤ lim) :
    Calls Tryz.prog 60 #[mem bh, .int .i64 at_, .agg #[.int .i64 vs.length, .int .i64 room, .int .i64 inn, .int .i64 0], .int .i64 least, .slice p new.length c] w fun e w' => e = .returned (.int .i64 0) ∧
      ∃ vw' vb' used' M' room' inn', Hp n₀ bh b vw' vb' w' lim used' M' ∧ Step b vw vb w vw' vb' w' ∧ Rw M' at_ kind (vs ++ new) room' inn' ∧ Kept M M' at_ inn room ∧
        (vs.length + new.length ≤ room → room' = room ∧ used' = used) ∧ (room < vs.length + new.length → room' = max least (2 * room) ∧ used' = used + 2 * room' + 1) := by
  have hk8 : ∀ v ∈ new, v.k < 256 := fun v hv => (hfit v hv).1
  have hap : (vs ++ new).length = vs.length + new.length := List.length_append
  rcases r with ⟨o, q, hr, rfl, rfl, rfl, hne, hvs⟩ | ⟨h1, rfl, rfl, rfl⟩
  · have hsz := hr.size
    by_cases hg : vs.length + new.length ≤ room
    · refine (push_room h hr hne least c hv hk8 hg (by omega)).mono ?_
      rintro e w' ⟨he, hp, hS⟩
      refine ⟨he, vw, vb, used, _, room, q.at_, hp, hS, .inl ⟨{ o with ws := [vs.length + new.length, q.at_ + 1] }, { q with ws := lays q.ws (2 * vs.length) new }, ⟨put_mem (put_other hr.mem hne _) _, put_other (put_mem hr.memq (lays q.ws (2 * vs.length) new)) (Ne.symm hne) _, by rw [hap], hr.kindq, by simp only [lays_len]; exact hsz, by rw [hap]; exact hg⟩, rfl, rfl, rfl, hne, ?_⟩, ?_, fun _ => ⟨rfl, rfl⟩, fun hc => by omega⟩
      · rw [hap, valsOf_lays new q.ws vs.length (by omega) hfit, hvs]
      · intro x hx h1 h2
        rcases h2 with h2 | h2
        · exact put_other (put_other hx h2 _) h1 _
        · omega
    · have hf' : used + 2 * max least (2 * room) + 1 ≤ lim := by rcases hf with hf | hf <;> omega
      have hu : ∀ x ∈ M, x.at_ < used := fun x hx => by have := h.srt.2 x hx; unfold Ob.end_ at this; omega
      have ho1 := hu o hr.mem
      refine (push_grow h hr hne least _ rfl hl4 hr20 c hv hk8 (by omega) hle hf').mono ?_
      rintro e w' ⟨he, vw', vb', hp, hS⟩
      refine ⟨he, vw', vb', _, _, max least (2 * room), used, hp, hS, .inl ⟨{ o with ws := [vs.length + new.length, used + 1] }, ⟨used, 8, lays (lays (List.replicate (2 * max least (2 * room)) 0) 0 (valsOf q.ws vs.length)) (2 * vs.length) new⟩, ⟨put_mem (put_other (List.mem_append_left _ hr.mem) (Nat.ne_of_lt ho1) _) _, put_other (put_mem (o := ⟨used, 8, List.replicate (2 * max least (2 * room)) 0⟩) (by simp) _) (Nat.ne_of_gt ho1) _, by rw [hap], rfl, by simp [lays_len], by rw [hap]; exact hle⟩, rfl, rfl, rfl, Nat.ne_of_lt ho1, ?_⟩, ?_, fun hc => by omega, fun _ => ⟨rfl, rfl⟩⟩
      · have hvl : (valsOf q.ws vs.length).length = vs.length := valsOf_len _ _
        have hfv : ∀ v ∈ valsOf q.ws vs.length, Fit v := fun v hv => by
          simp only [valsOf, List.mem_map, List.mem_range] at hv
          obtain ⟨i, _, rfl⟩ := hv
          refine ⟨valK_lt _ _, ?_⟩
          show -9223372036854775808 ≤ valN q.ws (2 * i) ∧ valN q.ws (2 * i) ≤ 9223372036854775807
          unfold valN wrap64
          split <;> omega
        have e1 := lays_zero (max least (2 * room)) (valsOf q.ws vs.length) (by rw [hvl]; omega) hfv
        rw [hvl] at e1
        rw [hap, valsOf_lays new _ vs.length (by simp [lays_len]; omega) hfit, e1, hvs]
      · intro x hx h1 h2
        exact put_other (put_other (List.mem_append_left _ hx) (Nat.ne_of_lt (hu x hx)) _) h1 _
  · have hg : ¬ (0 + new.length ≤ 0) := by omega
    simp only [List.length_nil] at hf hle hap
    have hmx : max least (2 * 0) = least := by omega
    rw [hmx] at hf hle
    have hu : ∀ x ∈ M, x.at_ < used := fun x hx => by have := h.srt.2 x hx; unfold Ob.end_ at this; omega
    have ho1 := hu _ h1
    simp only at ho1
    have := push_first h h1 least hl0 hl4 c hv hk8 h0 (by omega) (by omega)
    refine this.mono ?_
    rintro e w' ⟨he, vw', vb', hp, hS⟩
    refine ⟨he, vw', vb', _, _, least, used, hp, hS, .inl ⟨⟨at_, kind, [new.length, used + 1]⟩, ⟨used, 8, lays (List.replicate (2 * least) 0) 0 new⟩, ⟨put_mem (o := ⟨at_, kind, [0, 0]⟩) (put_other (List.mem_append_left _ h1) (Nat.ne_of_lt ho1) _) _, put_other (put_mem (o := ⟨used, 8, List.replicate (2 * least) 0⟩) (by simp) _) (Nat.ne_of_gt ho1) _, by simp, rfl, by simp [lays_len], by rw [List.nil_append]; omega⟩, rfl, rfl, rfl, Nat.ne_of_lt ho1, ?_⟩, ?_, fun hc => (hg (by simpa using hc)).elim, fun _ => ⟨hmx.symm, rfl⟩⟩
    · simpa using lays_zero least new (by omega) hfit
    · intro x hx h2 h3
      exact put_other (put_other (List.mem_append_left _ hx) (Nat.ne_of_lt (hu x hx)) _) h2 _

/-- One value is held in another one's place. -/
theorem Rw.hold {at_ kind room inn i : Nat} {vs : List Vl} {v : Vl} (r : Rw M at_ kind vs room inn) (h : Hp n₀ bh b vw vb w lim used M) (hi : i < vs.length) (hv : Fit v) :
    Calls Tryz.prog 59 #[mem bh, .agg #[.int .i64 vs.length, .int .i64 room, .int .i64 inn, .int .i64 0], .int .i64 i, .agg #[.int .u8 v.k, .int .i64 v.n]] w fun e w' => e = .returned (.tuple #[]) ∧
      ∃ M', Hp n₀ bh b vw vb w' lim used M' ∧ Step b vw vb w vw vb w' ∧ Rw M' at_ kind (vs.set i v) room inn ∧ Kept M M' at_ inn room := by
  rcases r with ⟨o, q, hr, rfl, rfl, rfl, hne, hvs⟩ | ⟨h1, rfl, rfl, rfl⟩
  · have hsz := hr.size
    have hle := hr.le
    have := hold_at h hr.memq vs.length room 0 i v.k v.n (by omega) (by omega) hv.1
    simp only [Nat.zero_add, show ((0 : Nat) : Int) = 0 from rfl] at this
    refine this.mono ?_
    rintro e w' ⟨he, hp, hS⟩
    refine ⟨he, _, hp, hS, .inl ⟨o, { q with ws := lay q.ws (2 * i) v.k v.n }, ⟨put_other hr.mem hne _, put_mem hr.memq _, by rw [List.length_set]; exact hr.ws, hr.kindq, by simp only [lay_len]; exact hsz, by rw [List.length_set]; exact hle⟩, rfl, rfl, rfl, hne, ?_⟩, ?_⟩
    · rw [List.length_set, valsOf_set hi (by omega) hv, hvs]
    · intro x hx h1 h2
      rcases h2 with h2 | h2
      · exact put_other hx h2 _
      · omega
  · simp at hi

end Go.Proofs.YtkombdkhodjckaaGreat
