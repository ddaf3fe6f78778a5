/- The document's Put. -/
import Derived.Test.YtgokofomoachaaaGreatDoorPkPutD
import Derived.Test.YtgokofomoachaaaGreatDoorPkPutE
import Derived.Test.YtgokofomoachaaaGreatDoorPoSame2
import Derived.Test.YtgokofomoachaaaGreatDoorPnPut2
namespace Go.Proofs.YtgokofomoachaaaGreatDoor
set_option linter.unusedVariables false
set_option linter.unusedSimpArgs false
open Go.RowKit

variable {w : World}


set_option maxRecDepth 20000 in
set_option maxHeartbeats 8000000 in
theorem rPut_in {base H : Nat} {S : List Om} {p : Option Addr} {c : Nat} {ts : List Po} (hR : Rh base w H S p c ts) (hbw : base ≤ w.heap.size) (h : Ask w p S) (v k x : Vl) {D : Dv} (hD : PutQ S v k x D) :
    Calls Tryz.prog 40 #[.pointer (some ⟨H, 0, none⟩), .agg #[.int .u8 v.k, .int .i64 v.n], .agg #[.int .u8 k.k, .int .i64 k.n], .agg #[.int .u8 x.k, .int .i64 x.n], .bool false] w fun e w' => e = .returned (.agg #[.int .u8 D.v.k, .int .i64 D.v.n, .string D.t, .int .i64 D.n]) ∧ (∃ p' c' ts', Rh base w' H D.S p' c' ts') ∧ Below base w w' := by
  by_cases hf : fineP S [v, k, x]
  · have hm := fine_may hf
    obtain ⟨i, o, r, hlo, hka, hD⟩ : ∃ (i : Nat) (o : Om) (r : Option Nat), (3 ≤ v.k → leadO S v = some o ∧ v.n = (i : Int) + 1) ∧ (v.k = 5 → KeyAt S o.l k r) ∧ D = putP S v k x i o r := by
      rcases hD with ⟨hn, -⟩ | ⟨-, i, o, r, q1, q2, q3⟩
      · exact (hn hm).elim
      · exact ⟨i, o, r, q1, q2, q3⟩
    have hk7 : ¬ (k.k = 7 ∨ x.k = 7) := by
      have h1 := (hf k (by simp)).1
      have h2 := (hf x (by simp)).1
      omega
    unfold putP at hD
    rw [if_neg hk7] at hD
    by_cases h5 : v.k = 5
    · rw [if_pos h5] at hD
      obtain ⟨ho, hvi⟩ := hlo (by omega)
      exact rPut_map hR hbw h v k x hf h5 ho hvi r (hka h5) hD
    · rw [if_neg h5] at hD
      by_cases h4 : v.k = 4
      · obtain ⟨ho, hvi⟩ := hlo (by omega)
        by_cases h2 : k.k = 2
        · rw [if_pos ⟨h4, h2⟩] at hD
          unfold putItemP at hD
          by_cases hb : k.n < 0 ∨ (o.l.length : Int) < k.n
          · rw [if_pos hb] at hD
            rcases hb with hb | hb
            · exact rPut_low hR hbw h v k x hf h4 h2 ho hvi hb hD
            · exact rPut_high hR hbw h v k x hf h4 h2 ho hvi hb hD
          · rw [if_neg hb] at hD
            by_cases hl : k.n < (o.l.length : Int)
            · rw [if_pos hl] at hD
              exact rPut_set hR hbw h v k x hf h4 h2 ho hvi (j := k.n.toNat) (by omega) (by omega) hD
            · rw [if_neg hl] at hD
              have hkn : k.n = (o.l.length : Int) := by omega
              by_cases hx : o.l.length = 65536
              · rw [if_pos hx] at hD
                exact rPut_full hR hbw h v k x hf h4 h2 ho hvi hkn hx hD
              · rw [if_neg hx] at hD
                obtain ⟨o', ho', hobj⟩ := may_obj hm (v := v) (by simp) (by omega)
                rw [ho] at ho'; cases ho'
                have hok : o.k = 4 := by have := (leadO_some ho).2.2.1; omega
                have hl9 := (hobj.1.2.1 hok).1
                exact rPut_more hR hbw h v k x hf h4 h2 ho hvi hkn (by omega) hD
        · rw [if_neg (fun e => h2 e.2)] at hD
          exact rPut_kind2 hR hbw h v k x hf h4 h2 hD
      · rw [if_neg (fun e => h4 e.1)] at hD
        exact rPut_kind1 hR hbw h v k x hf h5 h4 hD
  · exact rPut_bad hR hbw h v k x hf (put_ref hD hf)



end Go.Proofs.YtgokofomoachaaaGreatDoor

namespace Go.Proofs.YtgokofomoachaaaGreatDoor
set_option linter.unusedVariables false
set_option linter.unusedSimpArgs false
open Go.RowKit

variable {w : World}

/-- What is thrown asks for nothing; how many objects, how great they are. -/
def FairD (S : List Om) (D : Dv) : Prop := (D.t = ⟨#[]⟩ ∨ D.n = 0) ∧ D.S.length ≤ S.length + 1 ∧ ∀ y ∈ D.S, y.l.length ≤ 50002

theorem FairD.asks {S : List Om} {D : Dv} (h : FairD S D) : Rd.asks ⟨D.v, D.t, D.n⟩ D.n := by
  by_cases ht : D.t = ⟨#[]⟩
  · exact .inl ⟨ht, rfl⟩
  · exact .inr ⟨ht, h.1.resolve_left ht⟩


end Go.Proofs.YtgokofomoachaaaGreatDoor

namespace Go.Proofs.YtgokofomoachaaaGreatDoor
set_option linter.unusedVariables false
set_option linter.unusedSimpArgs false
open Go.RowKit

variable {w : World}

theorem get_ex (S : List Om) (v k : Vl) : ∃ D, GetR S v k D := by
  by_cases hm : mayL S [v, k]
  · by_cases h3 : 3 ≤ v.k
    · obtain ⟨o, ho, -⟩ := may_obj hm (v := v) (by simp) h3
      obtain ⟨r, hr⟩ := keyAt_ex S o.l k
      exact ⟨_, .inr ⟨hm, o, r, fun _ => ho, fun _ => hr, rfl⟩⟩
    · exact ⟨_, .inr ⟨hm, ⟨0, ⟨#[]⟩, [], 0, 0⟩, none, fun h => absurd h h3, fun h => absurd h (by omega), rfl⟩⟩
  · exact ⟨_, .inl ⟨hm, rfl⟩⟩

theorem put_ex (S : List Om) (v k x : Vl) : ∃ D, PutQ S v k x D := by
  by_cases hm : mayL S [v, k, x]
  · by_cases h3 : 3 ≤ v.k
    · obtain ⟨o, ho, -⟩ := may_obj hm (v := v) (by simp) h3
      obtain ⟨r, hr⟩ := keyAt_ex S o.l k
      obtain ⟨-, -, -, i, hn, -, -⟩ := leadO_some ho
      exact ⟨_, .inr ⟨hm, i, o, r, fun _ => ⟨ho, hn⟩, fun _ => hr, rfl⟩⟩
    · exact ⟨_, .inr ⟨hm, 0, ⟨0, ⟨#[]⟩, [], 0, 0⟩, none, fun h => absurd h h3, fun h => absurd h (by omega), rfl⟩⟩
  · exact ⟨_, .inl ⟨hm, rfl⟩⟩

theorem get_fair {S : List Om} {v k : Vl} {D : Dv} (h : GetR S v k D) (hS : ∀ o ∈ S, o.l.length ≤ 50000) : FairD S D := by
  have hS0 : ∀ y ∈ S, y.l.length ≤ 50002 := fun y hy => by have := hS y hy; omega
  have href : FairD S (refD S) := ⟨.inr rfl, by simp [refD], hS0⟩
  rcases h with ⟨-, rfl⟩ | ⟨-, o, r, -, -, rfl⟩
  · exact href
  · unfold getP
    split
    · exact ⟨.inl rfl, by simp, hS0⟩
    · split
      · split
        · exact ⟨.inr rfl, by simp, hS0⟩
        · exact ⟨.inl rfl, by simp, hS0⟩
      · split
        · split
          · exact ⟨.inr rfl, by simp, hS0⟩
          · refine ⟨.inl rfl, by simp, ?_⟩
            intro y hy
            simp only [List.mem_append, List.mem_singleton] at hy
            rcases hy with hy | rfl
            · exact hS0 y hy
            · simp [txtO]
        · exact href

theorem put_fair {S : List Om} {v k x : Vl} {D : Dv} (h : PutQ S v k x D) (hS : ∀ o ∈ S, o.l.length ≤ 50000) : FairD S D := by
  have hS0 : ∀ y ∈ S, y.l.length ≤ 50002 := fun y hy => by have := hS y hy; omega
  have href : FairD S (refD S) := ⟨.inr rfl, by simp [refD], hS0⟩
  have hset : ∀ (i : Nat) (y0 : Om), y0.l.length ≤ 50002 → ∀ y ∈ S.set i y0, y.l.length ≤ 50002 := fun i y0 h0 y hy => by
    rcases List.mem_or_eq_of_mem_set hy with hy | rfl
    · exact hS0 y hy
    · exact h0
  rcases h with ⟨-, rfl⟩ | ⟨-, i, o, r, hlo, -, rfl⟩
  · exact href
  · unfold putP
    split
    · exact href
    · split
      · have ho := hS o (leadO_mem (hlo (by omega)).1)
        unfold putPairP addedP
        cases r with
        | some j => exact ⟨.inl rfl, by simp, hset i _ (by simp; omega)⟩
        | none =>
          simp only
          split
          · exact ⟨.inr rfl, by simp, hS0⟩
          · split
            · exact ⟨.inl rfl, by simp, hset i _ (by simp; omega)⟩
            · exact ⟨.inl rfl, by simp, hset i _ (by simp; omega)⟩
      · split
        · rename_i h4
          have ho := hS o (leadO_mem (hlo (by omega)).1)
          unfold putItemP addedP
          split
          · exact ⟨.inr rfl, by simp, hS0⟩
          · split
            · exact ⟨.inl rfl, by simp, hset i _ (by simp; omega)⟩
            · split
              · exact ⟨.inr rfl, by simp, hS0⟩
              · split
                · exact ⟨.inl rfl, by simp, hset i _ (by simp; omega)⟩
                · exact ⟨.inl rfl, by simp, hset i _ (by simp; omega)⟩
        · exact href

theorem cell_row6 {W : World} {g : Nat} {a b c d e f : Value} {t : TypeId} (h : W.heap[g]? = some (.cells #[a, b, c, d, e, f] t (0, 0))) : W.cell? ⟨g, 0, none⟩ = some a ∧ W.cell? ⟨g, 1, none⟩ = some b ∧ W.cell? ⟨g, 2, none⟩ = some c ∧ W.cell? ⟨g, 3, none⟩ = some d ∧ W.cell? ⟨g, 4, none⟩ = some e ∧ W.cell? ⟨g, 5, none⟩ = some f :=
  ⟨by rw [cell_of_row W g 0 _ _ _ h]; rfl, by rw [cell_of_row W g 1 _ _ _ h]; rfl, by rw [cell_of_row W g 2 _ _ _ h]; rfl, by rw [cell_of_row W g 3 _ _ _ h]; rfl, by rw [cell_of_row W g 4 _ _ _ h]; rfl, by rw [cell_of_row W g 5 _ _ _ h]; rfl⟩


end Go.Proofs.YtgokofomoachaaaGreatDoor
