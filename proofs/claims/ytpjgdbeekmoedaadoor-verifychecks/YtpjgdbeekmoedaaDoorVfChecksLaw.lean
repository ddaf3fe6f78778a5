/- VerifyChecks: the walk. -/
import Derived.Test.YtpjgdbeekmoedaaDoorVfProg
import Derived.Test.YtpjgdbeekmoedaaDoorVfFns
namespace Go.Proofs.YtpjgdbeekmoedaaDoor
set_option linter.unusedVariables false
set_option linter.unusedSimpArgs false
open Go.RowKit

variable {w : World}

theorem ftwin_length {ts : List Ft} {l : List Fm} (h : ts.map Ft.f = l) : ts.length = l.length := by rw [← h]; simp

def Halted (p : Prop) : Prop := p

theorem halt_here {p : Prop} (h : Halted p) : p := h

set_option maxRecDepth 20000 in
set_option maxHeartbeats 4000000 in
theorem verifyChecks_walk (p : Option Addr) (l : List Fm) (c : Nat) (w : World) (hs : IsFns w p l) (hlen : l.length ≤ 140737488355328) (hc : ∀ f ∈ l, CameF f ∧ FitF f) (ht : RowsT w) :
    Calls Tryd.prog 3 #[.slice p l.length c] w fun e w' => e = .returned (.bool true) ∧ Below w.heap.size w w' := by
  have H1 := great_in c hs hlen (fun f hf => (hc f hf).1)
  have hfit : ∀ f ∈ l, FitF f := fun f hf => (hc f hf).2
  have HFIT : Hid _ := hfit
  have HS : Hid _ := hs
  have HT : Hid (RowsT w) := ht
  clear hs hc hfit ht
  go_enter Tryd.func3, Tryd.ntmps3
  go_wp2_with (first
    | (go_at_call 6; refine H1.mono ?_; clear H1; rintro e w1 ⟨b, rfl, hsm0, hB1⟩; refine halt_here ?_))
  unfold Halted
  cases b with
  | true =>
    clear hsm0
    go_wp2
    go_ret
    exact ⟨rfl, hB1⟩
  | false =>
    have hsm := hsm0 rfl
    clear hsm0
    have hll := hsm.len
    have H2 := twinProgram_in c (IsFns.below HS.out hB1) hll hsm.fns
    have H4 := fun (W : World) (G C : Nat) (ts : List Ft) (base : Nat) (hm : ts.map Ft.f = l) (h1 : TwFns base G C ts W) (hW : Below w.heap.size w W) => pcheck_in (w := W) (fs := l) C (hm ▸ h1.isFns) hsm HFIT.out (HT.out.below hW)
    have H5 := fun (W : World) (h : Below w.heap.size w W) => rcheck_in (w := W) c (IsFns.below HS.out h) hsm HFIT.out
    have H6 := fun (W : World) (G C : Nat) (ts : List Ft) (base : Nat) (hm : ts.map Ft.f = l) (h1 : TwFns base G C ts W) (h : Below w.heap.size w W) => leftProgram_in (p := p) c h1 (by rw [hm]; exact IsFns.below HS.out h) (by rw [ftwin_length hm]; exact hll) (fun x hx => hsm.fns x.f (by rw [← hm]; exact List.mem_map_of_mem hx))
    obtain ⟨r1, r2, r3, hr⟩ : ∃ r1 r2 r3, checkV l = (r1, r2, r3) := ⟨_, _, _, rfl⟩
    rw [hr] at H4 H5
    clear hr
    go_wp2_with (first
      | (go_at_call 7; refine H2.mono ?_; clear H2; rintro e w2 ⟨G, C, rfl, ts, hm, htw, hB2⟩; have k2 := hB1.trans (hB2.mono hB1.size))
      | (go_at_call 8; (with_reducible refine (H4 _ _ _ _ _ hm htw k2).mono ?_); clear H4; rintro e w3 ⟨rfl, hB3⟩; have k3 := k2.trans (hB3.mono k2.size); have htw3 := htw.below hB3)
      | (go_at_call 9; (with_reducible refine (H5 _ k3).mono ?_); clear H5; rintro e w4 ⟨rfl, hB4⟩; have k4 := k3.trans (hB4.mono k3.size); have htw4 := htw3.below hB4; have H6' := H6 _ _ _ _ _ hm htw4 k4; rw [ftwin_length hm] at H6')
      | (go_at_call 10; refine H6'.mono ?_; rintro e w5 ⟨rfl, hB5⟩))
    go_ret
    exact ⟨rfl, k4.trans (hB5.mono k4.size)⟩

end Go.Proofs.YtpjgdbeekmoedaaDoor
