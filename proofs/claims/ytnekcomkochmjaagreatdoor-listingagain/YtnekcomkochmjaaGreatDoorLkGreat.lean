/- What code that may be can be told of; how long its text is. -/
import Derived.Test.YtnekcomkochmjaaGreatDoorLkFn
import Derived.Test.YtnekcomkochmjaaGreatDoorVfRDepths
import Derived.Test.YtnekcomkochmjaaGreatDoorVfGreat
namespace Go.Proofs.YtnekcomkochmjaaGreatDoor
set_option linter.unusedVariables false
set_option linter.unusedSimpArgs false
open Go.RowKit

namespace Lk

variable {w : World}

def I64 (n : Int) : Prop := -9223372036854775808 ≤ n ∧ n ≤ 9223372036854775807

/-- A function whose numbers are of 64 bits. -/
structure NumF (f : Fm) : Prop where
  params : I64 f.params
  locals : I64 f.locals
  caps : ∀ c ∈ f.caps, I64 c.n
  consts : ∀ c ∈ f.consts, I64 c.n
  code : ∀ i ∈ f.code, I64 i.a
  lines : ∀ n ∈ f.lines, I64 n
  hs : ∀ h ∈ f.hs, I64 h.fr ∧ I64 h.to ∧ I64 h.at_ ∧ I64 h.deep

theorem fnsP_parts {fs : List Fm} : ∀ {r : List Fm} {fn : Nat} {mk : List Int}, (fnsP fs r fn mk).1 = none → ∀ f ∈ r, ∃ (main : Bool) (fn' : Nat) (mk' : List Int), headP f main = true ∧ (codeP fs fn' f f.code 0 mk').1 = none
  | [], fn, mk, _ => by simp
  | f :: r, fn, mk, h => by
    unfold fnsP at h
    split at h
    · rename_i hh
      cases hc : codeP fs fn f f.code 0 mk with
      | mk a b =>
        rw [hc] at h
        cases a with
        | some pc => simp at h
        | none =>
          simp only at h
          cases hd : depthsP f with
          | error pc => rw [hd] at h; simp at h
          | ok told =>
            rw [hd] at h
            simp only at h
            intro g hg
            rcases List.mem_cons.1 hg with rfl | hg
            · exact ⟨_, fn, mk, hh, by rw [hc]⟩
            · exact fnsP_parts h g hg
    · cases h

theorem check_parts {fs : List Fm} (h : (checkV fs).2.2 = 0) : ∀ f ∈ fs, ∃ (main : Bool) (fn' : Nat) (mk' : List Int), headP f main = true ∧ (codeP fs fn' f f.code 0 mk').1 = none := by
  unfold checkV at h
  split at h
  · simp at h
  · cases hf : fnsP fs fs 0 (List.replicate fs.length (-1)) with
    | mk a b =>
      rw [hf] at h
      cases a with
      | some x => obtain ⟨fn, pc⟩ := x; simp at h
      | none => exact fnsP_parts (by rw [hf])

theorem number_ok {nf pc : Nat} {f : Fm} {i : In} (h : numberP nf f pc i = true) : 0 < i.op ∧ i.op < 31 ∧ (i.op = 14 → 0 ≤ i.a ∧ i.a < 10) := by
  unfold numberP at h
  split at h
  · omega
  · split at h
    · omega
    · split at h
      · omega
      · split at h
        · have := of_decide_eq_true h; omega
        · split at h
          · omega
          · split at h
            · omega
            · split at h
              · omega
              · split at h
                · omega
                · have := of_decide_eq_true h; omega

/-- A function of code that may be can be told. -/
theorem fnOk_of {fs : List Fm} (h : (checkV fs).2.2 = 0) {f : Fm} (hf : f ∈ fs) (hfit : FitF f) (hn : NumF f) : FnOk f := by
  obtain ⟨main, fn', mk', hh, hc⟩ := check_parts h f hf
  unfold headP at hh
  simp only [Bool.and_eq_true, decide_eq_true_eq, List.all_eq_true] at hh
  obtain ⟨⟨⟨⟨h1, h2, h3, h4, h5, h6, h7, h8, h9, h10, h11⟩, hk⟩, hl⟩, hhs⟩ := hh
  refine ⟨hn.params, hn.locals, hn.caps, fun c hc => ⟨hfit.consts c hc, hn.consts c hc⟩, h11, fun j ln i hl hi => ?_, fun h hh => hn.hs h hh, ⟨by omega, by omega, by omega, by omega⟩⟩
  obtain ⟨mk', hx⟩ := codeP_ok hc j i hi
  unfold insP at hx
  simp only [Bool.and_eq_true] at hx
  obtain ⟨h1, h2, h3⟩ := number_ok hx.1.1
  exact ⟨hn.lines ln (List.mem_of_getElem? hl), h2, hn.code i (List.mem_of_getElem? hi), h3⟩

theorem tot_app (A B : List (List Th)) : tot (A ++ B) = tot A + tot B := by simp [tot]

theorem tot_cons (a : List Th) (B : List (List Th)) : tot (a :: B) = wide a + 1 + tot B := by simp [tot]

theorem tot_map {α : Type} (g : α → List Th) (K : Nat) (l : List α) (h : ∀ x ∈ l, wide (g x) + 1 ≤ K) : tot (l.map g) ≤ K * l.length := by
  induction l with
  | nil => simp [tot]
  | cons a r ih =>
    have h1 := h a (by simp)
    have h2 := ih (fun x hx => h x (by simp [hx]))
    rw [List.map_cons, tot_cons, List.length_cons, Nat.mul_succ]
    omega

def sumS (l : List Ck) : Nat := (l.map fun c => c.s.size).sum

theorem tot_consts (l : List Ck) : tot (l.map conT) ≤ 60 * l.length + 2 * sumS l := by
  induction l with
  | nil => simp [tot, sumS]
  | cons a r ih =>
    have h1 : wide (conT a) + 1 ≤ 60 + 2 * a.s.size := by
      unfold conT wide
      split
      · simp [wd, lo]; omega
      · simp [wd, tx]; omega
    simp only [sumS, List.map_cons, List.sum_cons, List.length_cons] at ih ⊢
    rw [tot_cons]
    omega

theorem tot_fn (f : Fm) : tot (fnT f) ≤ 130 * (1 + f.name.size + f.caps.length + (f.consts.length + sumS f.consts) + f.code.length + f.hs.length) := by
  have h0 : wide (headT f) + 1 ≤ 93 + 2 * f.name.size := by
    simp [headT, wide, wd, tx, nm]; omega
  have h1 := tot_map capT 60 f.caps (fun c hc => by unfold capT wide; split <;> simp [wd, nm])
  have h2 := tot_consts f.consts
  have h3 : tot (insL f) ≤ 103 * f.code.length := by
    have := tot_map (fun x : Int × In => insT x.1 x.2) 103 (f.lines.zip f.code) (fun x hx => by have := insT_wide x.1 x.2; omega)
    have h4 : (f.lines.zip f.code).length ≤ f.code.length := by simp; omega
    unfold insL
    exact Nat.le_trans this (Nat.mul_le_mul_left _ h4)
  have h4 := tot_map hanT 130 f.hs (fun c hc => by simp [hanT, wide, wd, nm])
  have e : fnT f = headT f :: (f.caps.map capT ++ (f.consts.map conT ++ (insL f ++ f.hs.map hanT))) := rfl
  rw [e, tot_cons, tot_app, tot_app, tot_app]
  omega

theorem sizeK_eq : ∀ {l : List Ck} {n : Nat}, sizeK l n ≤ 1048576 → sizeK l n = n + sumS l
  | [], n, _ => by simp [sizeK, sumS]
  | c :: r, n, h => by
    unfold sizeK at h ⊢
    split at h
    · rename_i hn
      rw [if_pos hn, sizeK_eq h]
      simp [sumS]; omega
    · omega

theorem addIf_eq {n m : Nat} (h : addIf n m ≤ 1048576) : addIf n m = n + m := by
  unfold addIf at h ⊢
  split at h
  · rename_i hn; rw [if_pos hn]
  · omega

theorem fnSize_eq {f : Fm} (h : fnSizeP f ≤ 1048576) : fnSizeP f = 1 + f.name.size + f.caps.length + (f.consts.length + sumS f.consts) + f.code.length + f.lines.length + f.hs.length := by
  have e5 := addIf_eq h
  obtain ⟨h4, _⟩ := addIf_small h
  have e4 := addIf_eq h4
  obtain ⟨h3, _⟩ := addIf_small h4
  have e3 := addIf_eq h3
  obtain ⟨h2, _⟩ := addIf_small h3
  have e2 := addIf_eq h2
  obtain ⟨h1, hk⟩ := addIf_small h2
  have e1 := addIf_eq h1
  have ek := sizeK_eq hk
  have e0 : fnSizeP f = addIf (addIf (addIf (addIf (addIf (1 + f.name.size) f.caps.length) (sizeK f.consts f.consts.length)) f.code.length) f.lines.length) f.hs.length := rfl
  rw [e0, e5, e4, e3, e2, e1, ek]

/-- How much room a program's lines may take. -/
def totP (fs : List Fm) : Nat := (fs.map fun f => tot (fnT f)).sum

theorem totP_le : ∀ {l : List Fm} {n : Nat}, sizeF l n ≤ 1048576 → n + (totP l + 129) / 130 ≤ sizeF l n
  | [], n, _ => by simp [sizeF, totP]
  | f :: r, n, h => by
    unfold sizeF at h ⊢
    split at h
    · rename_i hn
      rw [if_pos hn]
      have ih := totP_le h
      have hge := sizeF_ge r (n + fnSizeP f)
      have hs : fnSizeP f ≤ 1048576 := by omega
      have h1 := fnSize_eq hs
      have h2 := tot_fn f
      simp only [totP, List.map_cons, List.sum_cons] at ih ⊢
      omega
    · omega

theorem room_of {l : List Fm} {n : Nat} (h : sizeF l n ≤ 60000) : totP l ≤ 7800000 := by
  have := totP_le (l := l) (n := n) (by omega)
  omega

end Lk

end Go.Proofs.YtnekcomkochmjaaGreatDoor

namespace Go.Proofs.YtnekcomkochmjaaGreatDoor
set_option linter.unusedVariables false
set_option linter.unusedSimpArgs false
open Go.RowKit

namespace Lk

variable {w : World}

set_option maxRecDepth 20000 in
set_option maxHeartbeats 2000000 in
theorem great10_in {p : Option Addr} {l : List Fm} (c : Nat) (hv : IsFns w p l) (hlen : l.length ≤ 140737488355328) (hb : ∀ f ∈ l, CameF f) :
    Calls Tryz.prog 8 #[.slice p l.length c] w fun e w' => ∃ b : Bool, e = .returned (.bool b) ∧ (b = false → SmallP l ∧ sizeF l l.length ≤ 60000) ∧ Below w.heap.size w w' := by
  have H1 := fun (W : World) (h : Below w.heap.size w W) => programSize_in c (hv.below h) hlen hb
  have hm1 : sizeF l l.length ≤ 1099511627776 * 4096 := by have := sizeF_le l l.length hb; omega
  go_enter Tryz.func8, Tryz.ntmps8
  go_wp2
  go_loopw [3, 4] (fun n k wr => ∃ (j : Nat) (N : Int), k = .int .i64 j ∧ n = .int .i64 N ∧ j ≤ l.length ∧ Below w.heap.size w wr) (fun _ k _ => l.length - (intOf k).toNat)
  case atStart => exact ⟨0, 0, rfl, rfl, by omega, Below.refl _ _⟩
  case round =>
    obtain ⟨j, N, rfl, rfl, hj, hB⟩ := hrel
    by_cases hjn : j < l.length
    · have hjn' : (j : Int) < (l.length : Int) := by omega
      obtain ⟨x, hx⟩ : ∃ x, l[j]? = some x := ⟨l[j], by simp⟩
      obtain ⟨b0, off, s, rfl, hvx, c0, c1, c2, c3, c4, c5, c6, c7⟩ := hv.look hB hx
      clear hx H1 hb
      go_wp2
      go_roundw
      case rel => exact ⟨j + 1, wrap64 (N + x.hs.length), by simp, rfl, by omega, hB⟩
      case measure => simp [intOf]; omega
    · have hjn' : ¬ ((j : Int) < (l.length : Int)) := by omega
      by_cases h3 : 300 < N
      · clear H1 hb
        go_wp2
        go_ret
        first | exact ⟨true, rfl, (fun h => by cases h), hB⟩ | exact .inr ⟨rfl, hB⟩
      · obtain ⟨m, hm⟩ : ∃ m, sizeF l l.length = m := ⟨_, rfl⟩
        have HS : Hid (m ≤ 60000 → SmallP l ∧ sizeF l l.length ≤ 60000) := fun h => by
          have h' : sizeF l l.length ≤ 1048576 := by omega
          exact ⟨⟨Nat.le_trans (sizeF_ge _ _) h', sizeF_small h'⟩, by omega⟩
        rw [hm] at H1 hm1
        clear hm hb
        by_cases h6 : 60000 < m
        · have h6' : (60000 : Int) < (m : Int) := by omega
          go_wp2_with (first
            | (go_at_call 13; refine (H1 _ hB).mono ?_; clear H1; rintro e w2 ⟨rfl, hB2⟩))
          go_ret
          first | exact ⟨true, rfl, (fun h => by cases h), hB.trans (hB2.mono hB.size)⟩ | exact .inr ⟨rfl, hB.trans (hB2.mono hB.size)⟩
        · have h6' : ¬ ((60000 : Int) < (m : Int)) := by omega
          have HS2 : Hid _ := HS.out (by omega)
          clear HS
          go_wp2_with (first
            | (go_at_call 13; refine (H1 _ hB).mono ?_; clear H1; rintro e w2 ⟨rfl, hB2⟩))
          go_ret
          exact ⟨decide ((60000 : Int) < (m : Int)), rfl, (fun _ => HS2.out), hB.trans (hB2.mono hB.size)⟩

end Lk

end Go.Proofs.YtnekcomkochmjaaGreatDoor
