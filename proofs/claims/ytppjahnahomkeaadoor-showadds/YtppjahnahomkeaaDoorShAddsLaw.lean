/- ShowAdds: words of values together; the walk. -/
import Derived.Test.YtppjahnahomkeaaDoorShAlive2
import Derived.Test.YtppjahnahomkeaaDoorShReach
namespace Go.Proofs.YtppjahnahomkeaaDoor
set_option linter.unusedVariables false
set_option linter.unusedSimpArgs false
open Go.RowKit

theorem Reach.mono {S : List Om} {a b : List Vl} (h : ∀ v ∈ a, v ∈ b) {x : Int} (hx : Reach S a x) : Reach S b x :=
  hx (Reach S b) (fun v hv hl => Reach.root (h v hv) hl) (fun y o hy ho v hv hl => Reach.next hy ho hv hl)

theorem Reach.app {S : List Om} {a b : List Vl} {x : Int} (hx : Reach S (a ++ b) x) : Reach S a x ∨ Reach S b x :=
  hx (fun y => Reach S a y ∨ Reach S b y) (fun v hv hl => by
    rcases List.mem_append.1 hv with hv | hv
    · exact .inl (Reach.root hv hl)
    · exact .inr (Reach.root hv hl)) (fun y o hy ho v hv hl => by
    rcases hy with hy | hy
    · exact .inl (Reach.next hy ho hv hl)
    · exact .inr (Reach.next hy ho hv hl))

open Classical in
theorem words_mono {S : List Om} {a b : List Vl} (h : ∀ v ∈ a, v ∈ b) : wordsR S a ≤ wordsR S b := by
  unfold wordsR
  exact sumIf_mono (fun x hx => by simp at hx ⊢; exact hx.mono h)

open Classical in
theorem words_app {S : List Om} {a b : List Vl} : wordsR S (a ++ b) ≤ wordsR S a + wordsR S b := by
  unfold wordsR
  refine Nat.le_trans (sumIf_mono (g := fun y => decide (Reach S a y) || decide (Reach S b y)) (fun x hx => ?_)) sumIf_or
  simp at hx ⊢
  exact hx.app

open Classical in
theorem words_nil {S : List Om} : wordsR S [] = 0 := by
  unfold wordsR
  refine sumIf_none (fun x => ?_)
  have : ¬ Reach S [] x := fun h => h (fun _ => False) (fun v hv _ => by cases hv) (fun _ _ h => h.elim)
  simp [this]

open Classical in
theorem words_le {S : List Om} (hf : Fair S) (a : List Vl) : wordsR S a ≤ 2305843013508661248 := by
  have := sumIf_le (f := fun y => decide (Reach S a y)) (b := 1) (l := S.map wordsO) (m := 2199023255556) (by
    intro x hx
    obtain ⟨o, ho, rfl⟩ := List.mem_map.1 hx
    exact wordsO_le hf ho)
  unfold wordsR
  have h2 := hf.len
  rw [List.length_map] at this
  have h3 : S.length * 2199023255556 ≤ 1048576 * 2199023255556 := Nat.mul_le_mul_right _ h2
  refine Nat.le_trans this (Nat.le_trans h3 (by decide))

theorem own_vals {w : World} {base : Nat} {v : Value} {l : List Vl} (h : w.ownsRow base 26 2 v l.length (vcells l)) : ∃ q c, v = .slice q l.length c ∧ Vals w q l := by
  rcases h.2 with ⟨hv, h0⟩ | ⟨g, cap, cur, rfl, _⟩
  · have : l = [] := List.eq_nil_of_length_eq_zero h0
    subst this
    exact ⟨none, 0, hv, fun j v hj => by simp at hj⟩
  · exact ⟨_, cap, rfl, fun j v hj => ⟨g, 0, rfl, by simpa using (row_vals h rfl hj).1, by simpa using (row_vals h rfl hj).2⟩⟩

set_option maxRecDepth 20000 in
set_option maxHeartbeats 4000000 in
theorem showAdds_walk (p : Option Addr) (S : List Om) (c : Nat) (qa : Option Addr) (a : List Vl) (ca : Nat) (qb : Option Addr) (b : List Vl) (cb : Nat) (w : World) (hs : IsSt w p S) (hb : Came S) (hfit : ∀ o ∈ S, o.fits) (hva : Vals w qa a) (hna : qa = none → ca = 0) (hvb : Vals w qb b) (hnb : qb = none → cb = 0) (htab : Tab w) :
    Calls Tryd.prog 6 #[.slice p S.length c, .slice qa a.length ca, .slice qb b.length cb] w fun e w' => e = .returned (.bool true) ∧ Below w.heap.size w w' := by
  have HA := fun (W : World) (h : Below w.heap.size w W) => alive_in W (htab.below h)
  have H1 := fun (W : World) (h : Below w.heap.size w W) => great_in c (hs.below h) hb
  go_enter Tryd.func6, Tryd.ntmps6
  go_wp2_with (first
    | (go_at_call 12; refine (HA _ (Below.refl _ _)).mono ?_; rintro e w1 ⟨rfl, hB1⟩)
    | (go_at_call 7; refine (H1 _ hB1).mono ?_; clear H1; rintro e w2 ⟨g, rfl, hsm0, hB2⟩; refine halt_here ?_))
  unfold Halted
  have hB2' : Below w.heap.size w w2 := hB1.trans (hB2.mono hB1.size)
  have hcase : g = true ∨ (g = false ∧ 1000 < a.length) ∨ (g = false ∧ a.length ≤ 1000 ∧ 1000 < b.length) ∨ (g = false ∧ a.length ≤ 1000 ∧ b.length ≤ 1000) := by
    cases g <;> simp; omega
  rcases hcase with rfl | ⟨rfl, hl⟩ | ⟨rfl, hl, hl2⟩ | ⟨rfl, hla, hlb⟩
  · clear hsm0
    go_wp2_with (first
      | (go_at_call 12; refine (HA _ hB2').mono ?_; rintro e w3 ⟨rfl, hB3⟩))
    go_ret
    exact ⟨rfl, hB2'.trans (hB3.mono hB2'.size)⟩
  · have hl' : ((1000 : Int) < (a.length : Int)) := by omega
    clear hsm0
    go_wp2_with (first
      | (go_at_call 12; refine (HA _ hB2').mono ?_; rintro e w3 ⟨rfl, hB3⟩))
    go_ret
    exact ⟨rfl, hB2'.trans (hB3.mono hB2'.size)⟩
  · have hl' : ¬ ((1000 : Int) < (a.length : Int)) := by omega
    have hl2' : ((1000 : Int) < (b.length : Int)) := by omega
    clear hsm0
    go_wp2_with (first
      | (go_at_call 12; refine (HA _ hB2').mono ?_; rintro e w3 ⟨rfl, hB3⟩))
    go_ret
    exact ⟨rfl, hB2'.trans (hB3.mono hB2'.size)⟩
  · have hl' : ¬ ((1000 : Int) < (a.length : Int)) := by omega
    have hl2' : ¬ ((1000 : Int) < (b.length : Int)) := by omega
    obtain ⟨hsm, -⟩ := hsm0 rfl
    clear hsm0 HA
    have hsl := hsm.len
    go_wp2
    go_loopw [7] (fun k wr => ∃ j : Nat, k = .int .i64 j ∧ j ≤ S.length ∧ (∀ o ∈ S.take j, o.room ≤ 1099511627776) ∧ Below w.heap.size w wr) (fun k _ => S.length - (intOf k).toNat)
    case atStart => exact ⟨0, rfl, by omega, by simp, hB2'⟩
    case round =>
      obtain ⟨j, rfl, hj, hall, hB⟩ := hrel
      have HL : Hid _ := hall
      clear hall
      by_cases hjn : j < S.length
      · have hjn' : (j : Int) < (S.length : Int) := by omega
        obtain ⟨o, ho⟩ : ∃ o, S[j]? = some o := ⟨S[j], by simp⟩
        obtain ⟨b0, off, rfl, c0, c1, ⟨qo, co, c2, hvo, -⟩, c3, c4⟩ := hs.look hB ho
        have HO : Hid _ := ho
        clear ho hvo
        by_cases h5 : o.room ≤ 1099511627776
        · have h5' : ¬ ((1099511627776 : Int) < o.room) := by omega
          go_wp2
          go_roundw
          case rel =>
            refine ⟨j + 1, by simp, by omega, ?_, hB⟩
            rw [List.take_add_one, HO.out]
            intro x hx
            simp at hx
            rcases hx with hx | rfl
            · exact HL.out x hx
            · exact h5
          case measure => simp [intOf]; omega
        · have h5' : ((1099511627776 : Int) < o.room) := by omega
          go_wp2
          go_ret
          exact ⟨rfl, hB⟩
      · have hjn' : ¬ ((j : Int) < (S.length : Int)) := by omega
        have hall := HL.out
        rw [List.take_of_length_le (by omega)] at hall
        have hf : Fair S := ⟨hsm.len, hsm.vals, hsm.str, hall⟩
        have HW := fun (W : World) (q : Option Addr) (l : List Vl) (cq : Nat) (h : Below w.heap.size w W) (hv : Vals W q l) (hl : l.length ≤ 100000) => Words_in c cq (hs.below h) hf hv hl
        have HWn : ∀ (W : World), Below w.heap.size w W → Calls Tryd.prog 15 #[.slice p S.length c, .slice none 0 0] W fun e w' => e = .returned (.int .i64 0) ∧ Below W.heap.size W w' := fun W h => by
          have := HW W none [] 0 h (fun j v hj => by simp at hj) (by simp)
          rw [words_nil] at this
          exact this
        have e1 := words_app (S := S) (a := a) (b := b)
        have e2 := words_mono (S := S) (a := a) (b := a ++ b) (by intro v hv; simp [hv])
        have e3 := words_mono (S := S) (a := b) (b := a ++ b) (by intro v hv; simp [hv])
        have e4 : wordsR S (a ++ b ++ a) = wordsR S (a ++ b) := Nat.le_antisymm (words_mono (by intro v hv; simp at hv ⊢; rcases hv with h | h | h <;> simp [h])) (words_mono (by intro v hv; simp at hv ⊢; rcases hv with h | h <;> simp [h]))
        have l1 := words_le hf a
        have l2 := words_le hf b
        have l3 := words_le hf (a ++ b)
        have HWa := fun (W : World) (h : Below w.heap.size w W) => HW W qa a ca h (hva.below h) (by omega)
        have HWb := fun (W : World) (h : Below w.heap.size w W) => HW W qb b cb h (hvb.below h) (by omega)
        have HWc := fun (W : World) (q : Option Addr) (cq : Nat) (h : Below w.heap.size w W) (hv : Vals W q (a ++ b)) => HW W q (a ++ b) cq h hv (by rw [List.length_append]; omega)
        have HWd := fun (W : World) (q : Option Addr) (cq : Nat) (h : Below w.heap.size w W) (hv : Vals W q (a ++ b ++ a)) => HW W q (a ++ b ++ a) cq h hv (by rw [List.length_append, List.length_append]; omega)
        rw [e4] at HWd
        generalize wordsR S a = X at *
        generalize wordsR S b = Y at *
        generalize wordsR S (a ++ b) = Z at *
        have z1 : (Z : Int) ≤ (X : Int) + (Y : Int) := by omega
        have z2 : (X : Int) ≤ (Z : Int) := by omega
        have z3 : (Y : Int) ≤ (Z : Int) := by omega
        have hsz := hB.size
        rw [List.length_append] at HWc
        rw [List.length_append, List.length_append] at HWd
        clear e1 e2 e3 e4 hall hf HW hsm hfit
        go_wp2_with (first
          | (at_builtin; (refine wpList_append_vals rfl _ _ rfl w.heap.size (.slice none 0 0) 0 [] rfl (World.ownsRow_nil _ _ _ _) a qa ca rfl (hva.below hB) hna (by unfold maxLen; omega) (by omega) (by omega) ?_); intro v1 w3 ho3 hg3; have hB3 : Below w.heap.size w w3 := hB.trans (rbelow_grown hg3 (fun q e => by cases e) (by omega)); have hz3 := hB3.size; refine halt_here ?_))
        unfold Halted
        have ho3' : w3.ownsRow w.heap.size 26 2 v1 a.length (vcells a) := by simpa using ho3
        clear ho3
        go_wp2_with (first
          | (at_builtin; (refine wpList_append_vals rfl _ _ rfl w.heap.size v1 a.length (vcells a) rfl ho3' b qb cb rfl (hvb.below hB3) hnb (by unfold maxLen; omega) (by omega) (by omega) ?_); intro v2 w4 ho4 hg4; have hB4 : Below w.heap.size w w4 := hB3.trans (rbelow_grown hg4 (fun q e => (ho3'.lt q e).1) (by omega)); have hz4 := hB4.size; refine halt_here ?_))
        unfold Halted
        have ho4' : w4.ownsRow w.heap.size 26 2 v2 (a ++ b).length (vcells (a ++ b)) := by rw [List.length_append, vcells_append]; exact ho4
        obtain ⟨q2, c2, e2, hv2⟩ := own_vals ho4'
        rw [List.length_append] at e2
        subst e2
        clear ho4' ho3' hg3 hg4
        go_wp2_with (first
          | (go_at_call 15; (with_reducible refine (HWa _ hB4).mono ?_); rintro e w5 ⟨rfl, hB5⟩; have hB5' : Below w.heap.size w w5 := hB4.trans (hB5.mono hz4); have hz5 := hB5'.size; refine halt_here ?_))
        unfold Halted
        go_wp2_with (first
          | (go_at_call 15; (with_reducible refine (HWb _ hB5').mono ?_); rintro e w6 ⟨rfl, hB6⟩; have hB6' : Below w.heap.size w w6 := hB5'.trans (hB6.mono hz5); have hz6 := hB6'.size; refine halt_here ?_))
        unfold Halted
        have hB46 := hB5.trans (hB6.mono hB5.size)
        have hv6 := hv2.below hB46
        go_wp2_with (first
          | (go_at_call 15; (with_reducible refine (HWc _ q2 c2 hB6' hv6).mono ?_); rintro e w7 ⟨rfl, hB7⟩; have hB7' : Below w.heap.size w w7 := hB6'.trans (hB7.mono hz6); have hz7 := hB7'.size; refine halt_here ?_))
        unfold Halted
        have hB47 := hB46.trans (hB7.mono hB46.size)
        have ho7 := row_below ho4 hB47
        clear hB46 hv6 hv2 HWc
        go_wp2_with (first
          | (at_builtin; (refine wpList_append_vals rfl _ _ rfl w.heap.size _ (a.length + b.length) _ rfl ho7 a qa ca rfl (hva.below hB7') hna (by unfold maxLen; omega) (by omega) (by omega) ?_); intro v3 w8 ho8 hg8; have hB8 : Below w.heap.size w w8 := hB7'.trans (rbelow_grown hg8 (fun q e => (ho7.lt q e).1) (by omega)); have hz8 := hB8.size; refine halt_here ?_))
        unfold Halted
        have ho8' : w8.ownsRow w.heap.size 26 2 v3 (a ++ b ++ a).length (vcells (a ++ b ++ a)) := by rw [List.length_append, List.length_append, vcells_append, vcells_append]; exact ho8
        obtain ⟨q3, c3, e3, hv3⟩ := own_vals ho8'
        rw [List.length_append, List.length_append] at e3
        subst e3
        clear ho8' ho8 ho7 hg8 ho4
        have z4 : ¬ ((X : Int) + (Y : Int) < (Z : Int)) := by omega
        go_wp2_with (first
          | (go_at_call 15; (with_reducible refine (HWd _ q3 c3 hB8 hv3).mono ?_); rintro e w9 ⟨rfl, hB9⟩; have hB9' : Below w.heap.size w w9 := hB8.trans (hB9.mono hz8); have hz9 := hB9'.size; refine halt_here ?_))
        unfold Halted
        go_wp2_with (first
          | (go_at_call 15; (with_reducible refine (HWn _ hB9').mono ?_); rintro e w10 ⟨rfl, hB10⟩; have hB10' : Below w.heap.size w w10 := hB9'.trans (hB10.mono hz9)))
        go_ret
        exact ⟨rfl, hB10'⟩

end Go.Proofs.YtppjahnahomkeaaDoor
