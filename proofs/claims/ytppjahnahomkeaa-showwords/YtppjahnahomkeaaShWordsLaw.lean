/- ShowWords: the walk. -/
import Derived.Test.YtppjahnahomkeaaShGreat
import Derived.Test.YtppjahnahomkeaaShRefWords
import Derived.Test.YtppjahnahomkeaaShTwinO
import Derived.Test.YtppjahnahomkeaaShEachW
namespace Go.Proofs.Ytppjahnahomkeaa
set_option linter.unusedVariables false
set_option linter.unusedSimpArgs false
open Go.RowKit

variable {w : World}

/-- A walk stands here. -/
def Stopped (p : Prop) : Prop := p

theorem stop_here {p : Prop} (h : Stopped p) : p := h

theorem Small.fair {S : List Om} (h : Small S) (hr : ∀ o ∈ S, o.room ≤ 1099511627776) : Fair S := ⟨h.len, h.vals, h.str, hr⟩

theorem twin_len {ts : List Ot} {S : List Om} (h : ts.map Ot.o = S) : ts.length = S.length := by rw [← h]; simp

theorem valW (W : World) (vs : List Vl) (h : Vals w none vs) : vs = [] := by
  cases vs with
  | nil => rfl
  | cons v r => obtain ⟨_, _, e, _⟩ := h 0 v rfl; cases e

set_option maxRecDepth 20000 in
set_option maxHeartbeats 4000000 in
theorem showWords_walk (p : Option Addr) (S : List Om) (c : Nat) (q : Option Addr) (roots : List Vl) (cq : Nat) (w : World) (hs : IsSt w p S) (hb : Came S) (hv : Vals w q roots) (hq0 : q = none → cq = 0) :
    Calls Try.prog 4 #[.slice p S.length c, .slice q roots.length cq] w fun e w' => e = .returned (.bool true) ∧ Below w.heap.size w w' := by
  have H1 := great_in c hs hb
  go_enter Try.func4, Try.ntmps4
  go_wp2_with (first
    | (go_at_call 5; refine H1.mono ?_; clear H1; rintro e w1 ⟨b, rfl, hsm0, hB0⟩; refine stop_here ?_))
  unfold Stopped
  cases b with
  | true =>
    clear hsm0
    go_wp2
    go_ret
    exact ⟨rfl, hB0⟩
  | false =>
    obtain ⟨hsm, -⟩ := hsm0 rfl
    clear hsm0
    by_cases hr : roots.length ≤ 5000
    · have hr' : ¬ ((5000 : Int) < (roots.length : Int)) := by omega
      have hsl := hsm.len
      go_wp2
      go_loopw [5] (fun k wr => ∃ j : Nat, k = .int .i64 j ∧ j ≤ S.length ∧ (∀ o ∈ S.take j, o.room ≤ 1099511627776) ∧ Below w.heap.size w wr) (fun k _ => S.length - (intOf k).toNat)
      case atStart => exact ⟨0, rfl, by omega, by simp, hB0⟩
      case round =>
        obtain ⟨j, rfl, hj, hall, hB1⟩ := hrel
        have HA : Hid _ := hall
        clear hall
        by_cases hjn : j < S.length
        · have hjn' : (j : Int) < (S.length : Int) := by omega
          obtain ⟨o, ho⟩ : ∃ o, S[j]? = some o := ⟨S[j], by simp⟩
          obtain ⟨b0, off, rfl, c0, c1, ⟨qo, co, c2, hvo, -⟩, c3, c4⟩ := hs.look hB1 ho
          have HO : Hid _ := ho
          clear ho hvo
          by_cases h5 : o.room ≤ 1099511627776
          · have h5' : ¬ ((1099511627776 : Int) < o.room) := by omega
            go_wp2
            go_roundw
            case rel =>
              refine ⟨j + 1, by simp, by omega, ?_, hB1⟩
              rw [List.take_add_one, HO.out]
              intro x hx
              simp at hx
              rcases hx with hx | rfl
              · exact HA.out x hx
              · exact h5
            case measure => simp [intOf]; omega
          · have h5' : ((1099511627776 : Int) < o.room) := by omega
            go_wp2
            go_ret
            exact ⟨rfl, hB1⟩
        · have hjn' : ¬ ((j : Int) < (S.length : Int)) := by omega
          have hall := HA.out
          rw [List.take_of_length_le (by omega)] at hall
          have hf : Fair S := hsm.fair hall
          have hls : ∀ o ∈ S, o.l.length ≤ 1000000 := fun o ho => by have := hf.vals o ho; omega
          have H2 := twinStore_in c (hs.below hB1) hsl hls
          have H3 := fun (W : World) (h : Below w.heap.size w W) => twinV_in cq (hv.below h) (by omega)
          have H4 := fun (W : World) (G C g' c' : Nat) (ts : List Ot) (base : Nat) (hm : ts.map Ot.o = S) (h1 : TwinSt base G C ts W) (h2 : TwinAt base g' c' roots W) => Words_in (w := W) (S := S) C c' (hm ▸ h1.isSt) hf h2.vals (Nat.le_trans hr (by decide))
          have H5 := fun (W : World) (h : Below w.heap.size w W) => rWords_in c cq (hs.below h) hf (hv.below h) (Nat.le_trans hr (by decide)) hq0
          have H6 := fun (W : World) (G C : Nat) (ts : List Ot) (base : Nat) (hm : ts.map Ot.o = S) (h1 : TwinSt base G C ts W) (h : Below w.heap.size w W) => leftStore_in (p := p) c h1 (by rw [hm]; exact hs.below h) (by rw [twin_len hm]; exact hsl) (fun x hx => hls x.o (by rw [← hm]; exact List.mem_map_of_mem hx))
          have H7 := fun (W : World) (g' c' : Nat) (base : Nat) (h2 : TwinAt base g' c' roots W) (h : Below w.heap.size w W) => leftV_in cq h2 (hv.below h) (by omega)
          clear hall hf hls hs hb hv
          go_wp2_with (first
            | (go_at_call 6; refine H2.mono ?_; clear H2; rintro e w2 ⟨G, C, rfl, ts, hm, htw, hB2⟩; have hB2' := hB1.trans (hB2.mono hB1.size))
            | (go_at_call 10; refine (H3 _ hB2').mono ?_; clear H3; rintro e w3 ⟨g', c', rfl, htv, hB3⟩; have hB3' := hB2'.trans (hB3.mono hB2'.size); have htw3 := htw.below hB3; have hbs : wr.heap.size ≤ w2.heap.size := hB2.size; have htv3 : TwinAt wr.heap.size g' c' roots w3 := row_mono2 htv hbs)
            | (go_at_call 11; refine (H4 _ _ _ _ _ _ _ hm htw3 htv3).mono ?_; clear H4; rintro e w4 ⟨rfl, hB4⟩; have hB4' := hB3'.trans (hB4.mono hB3'.size); have htw4 := htw3.below hB4; have htv4 := htv3.below hB4)
            | (go_at_call 12; refine (H5 _ hB4').mono ?_; clear H5; rintro e w5 ⟨rfl, hB5⟩; have hB5' := hB4'.trans (hB5.mono hB4'.size); have htw5 := htw4.below hB5; have htv5 := htv4.below hB5; have H6' := H6 _ _ _ _ _ hm htw5 hB5'; rw [twin_len hm] at H6')
            | (go_at_call 9; refine H6'.mono ?_; clear H6 H6'; rintro e w6 ⟨rfl, hB6⟩; have hB6' := hB5'.trans (hB6.mono hB5'.size); have htv6 := htv5.below hB6)
            | (go_at_call 13; refine (H7 _ _ _ _ htv6 hB6').mono ?_; clear H7; rintro e w7 ⟨rfl, hB7⟩))
          go_ret
          exact ⟨rfl, hB6'.trans (hB7.mono hB6'.size)⟩
    · have hr' : ((5000 : Int) < (roots.length : Int)) := by omega
      go_wp2
      go_ret
      exact ⟨rfl, hB0⟩

end Go.Proofs.Ytppjahnahomkeaa
