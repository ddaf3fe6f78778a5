/- The document's Roots. -/
import Derived.Test.YtampilfebmfhaaaGreatDoorRgMath
import Derived.Test.YtampilfebmfhaaaGreatDoorGcReach2
namespace Go.Proofs.YtampilfebmfhaaaGreatDoor
set_option linter.unusedVariables false
set_option linter.unusedSimpArgs false
open Go.RowKit

variable {n₀ br all en : Nat} {vo : Value} {w : World} {R : List (Ob × Value)}

theorem leadI_neg {R : List (Ob × Value)} (hs : Srt 0 (R.map Prod.fst)) (k : Nat) (n : Int) : (Leads (R.map Prod.fst) k n ∧ ∃ q : Nat, leadI R k n = q ∧ q < R.length) ∨ (¬ Leads (R.map Prod.fst) k n ∧ leadI R k n = -1) := by
  by_cases hL : Leads (R.map Prod.fst) k n
  · left
    refine ⟨hL, ?_⟩
    unfold leadI
    rw [if_pos hL]
    rcases findR_cases n R with e | e
    · obtain ⟨_, _, o, ho, eo, _⟩ := hL
      obtain ⟨y, hy, rfl⟩ := List.mem_map.1 ho
      rcases find_cases R hs n with hn | ⟨l, z, r, hRz, hz, hlz⟩
      · exact (hn y hy eo).elim
      · rw [hRz, findR_at (fun u hu e => hlz u hu (by omega)) hz] at e; omega
    · exact e
  · right
    refine ⟨hL, ?_⟩
    unfold leadI
    rw [if_neg hL]

set_option maxRecDepth 20000 in
set_option maxHeartbeats 1000000 in
theorem rroots_in (h : IsRf n₀ br vo w all en R) (hs : Srt 0 (R.map Prod.fst)) {p : Option Addr} {vs : List Vl} (c : Nat) (hv : Vals w p vs) (hlen : vs.length ≤ 1000000) (hk8 : ∀ v ∈ vs, v.k < 256) :
    Calls Tryz.prog 24 #[.pointer (some ⟨br, 0, none⟩), .slice p vs.length c] w fun e w' => ((May (R.map Prod.fst) vs ∧ e = .returned (.bool true)) ∨ (¬ May (R.map Prod.fst) vs ∧ e = .returned (.bool false))) ∧ Below w.heap.size w w' := by
  go_enter Tryz.func24, Tryz.ntmps24
  go_wp2
  go_loopw [5] (fun k wr => ∃ (pre rest : List Vl), k = .int .i64 pre.length ∧ vs = pre ++ rest ∧ May (R.map Prod.fst) pre ∧ Below w.heap.size w wr) (fun k _ => vs.length - (intOf k).toNat)
  case atStart => exact ⟨[], vs, rfl, rfl, by intro v hv; simp at hv, Below.refl _ _⟩
  case round =>
    obtain ⟨pre, rest, rfl, hR, hmay, hB⟩ := hrel
    cases rest with
    | nil =>
      have hR' : vs = pre := by simpa using hR
      have hq : ¬ ((pre.length : Int) < (vs.length : Int)) := by rw [hR']; omega
      have HM : Hid (May (R.map Prod.fst) vs) := by rw [hR']; exact hmay
      clear hR hR' hmay
      go_wp2
      go_ret
      exact ⟨.inl ⟨HM.out, rfl⟩, hB⟩
    | cons v rest =>
      have hlR : pre.length < vs.length := by rw [hR]; simp
      have hvm : v ∈ vs := by rw [hR]; simp
      obtain ⟨b0, off, rfl, c0, c1⟩ := (hv.below hB) pre.length v (by rw [hR]; simp)
      have HR : Hid (vs = pre ++ v :: rest) := hR
      have H2 := rleads_in (h.below hB) hs v.k v.n
      have e1 : (((pre ++ [v]).length : Nat) : Int) = pre.length + 1 := by simp
      have hvk := hk8 v hvm
      clear hR
      by_cases h7 : v.k ≤ 7
      · have h7' : ¬ ((7 : Int) < (v.k : Int)) := by omega
        by_cases h3 : 3 ≤ v.k
        · have h3' : (3 : Int) ≤ (v.k : Int) := by omega
          rcases leadI_neg hs v.k v.n with ⟨hL, q, e2, _⟩ | ⟨hL, e2⟩
          · rw [e2] at H2
            have HM : Hid (May (R.map Prod.fst) (pre ++ [v])) := by
              intro u hu
              rcases List.mem_append.1 hu with hu | hu
              · exact hmay u hu
              · simp at hu; subst hu; exact ⟨h7, fun _ => hL⟩
            clear hL e2
            go_wp2_with (first
              | (go_at_call 103; refine H2.mono ?_; clear H2; rintro e w2 ⟨rfl, hB2⟩))
            go_roundw
            case rel => exact ⟨pre ++ [v], rest, by rw [e1], by have := HR.out; simpa using this, HM.out, hB.trans (hB2.mono hB.size)⟩
            case measure => simp [intOf]; omega
          · rw [e2] at H2
            have HM : Hid (¬ May (R.map Prod.fst) vs) := fun hm => hL ((hm v hvm).2 h3)
            clear hL e2
            go_wp2_with (first
              | (go_at_call 103; refine H2.mono ?_; clear H2; rintro e w2 ⟨rfl, hB2⟩))
            go_ret
            exact ⟨.inr ⟨HM.out, rfl⟩, hB.trans (hB2.mono hB.size)⟩
        · have h3' : ¬ ((3 : Int) ≤ (v.k : Int)) := by omega
          have HM : Hid (May (R.map Prod.fst) (pre ++ [v])) := by
            intro u hu
            rcases List.mem_append.1 hu with hu | hu
            · exact hmay u hu
            · simp at hu; subst hu; exact ⟨h7, fun h => (h3 h).elim⟩
          go_wp2
          go_roundw
          case rel => exact ⟨pre ++ [v], rest, by rw [e1], by have := HR.out; simpa using this, HM.out, hB⟩
          case measure => simp [intOf]; omega
      · have h7' : (7 : Int) < (v.k : Int) := by omega
        have HM : Hid (¬ May (R.map Prod.fst) vs) := fun hm => h7 (hm v hvm).1
        go_wp2
        go_ret
        exact ⟨.inr ⟨HM.out, rfl⟩, hB⟩

end Go.Proofs.YtampilfebmfhaaaGreatDoor
