/- The document's Leads, Val, First. -/
import Derived.Test.YtampilfebmfhaaaGreatDoorGcHolds
import Derived.Test.YtampilfebmfhaaaGreatDoorBoth
namespace Go.Proofs.YtampilfebmfhaaaGreatDoor
set_option linter.unusedVariables false
set_option linter.unusedSimpArgs false
open Go.RowKit

variable {n₀ br all en : Nat} {vo : Value} {w : World} {R : List (Ob × Value)}

/-- Where in the list the object stands that a value leads to; -1: to none. -/
def leadI (R : List (Ob × Value)) (k : Nat) (n : Int) : Int := if Leads (R.map Prod.fst) k n then findR n R else -1

set_option maxRecDepth 20000 in
set_option maxHeartbeats 1000000 in
theorem rleads_in (h : IsRf n₀ br vo w all en R) (hs : Srt 0 (R.map Prod.fst)) (k : Nat) (n : Int) :
    Calls Tryz.prog 103 #[.pointer (some ⟨br, 0, none⟩), .agg #[.int .u8 k, .int .i64 n]] w fun e w' => e = .returned (.int .i64 (leadI R k n)) ∧ Below w.heap.size w w' := by
  by_cases hk : 3 ≤ k ∧ k ≤ 7
  · have k1 : ¬ ((k : Int) < 3) := by omega
    have k2 : ¬ ((7 : Int) < (k : Int)) := by omega
    have H1 := fun w' (hB : Below w.heap.size w w') => find_r (h.below hB) n
    rcases find_cases R hs n with hn | ⟨l, x, r, hR, hx, hl⟩
    · have e1 : leadI R k n = -1 := by
        unfold leadI
        rw [if_neg]
        rintro ⟨_, _, o, ho, e, _⟩
        obtain ⟨x, hx, rfl⟩ := List.mem_map.1 ho
        exact hn x hx e
      rw [e1, findR_none hn] at *
      clear e1 hn
      go_enter Tryz.func103, Tryz.ntmps103
      go_wp2_with (first
        | (go_at_call 178; refine (H1 _ (below1 _ _)).mono ?_; clear H1; rintro e w' ⟨rfl, rfl⟩))
      go_quiet (fail)
      go_wp2
      go_ret
      exact ⟨rfl, below_drewN' (below1 _ _) _⟩
    · have hf : findR n R = l.length := by rw [hR]; exact findR_at (fun y hy e => hl y hy (by omega)) hx
      have hxm : x.1 ∈ R.map Prod.fst := List.mem_map.2 ⟨x, by rw [hR]; simp, rfl⟩
      have hli := leads_iff hs hxm k
      rw [hx] at hli
      rw [hf] at H1
      have hr2 := fun w' (hB : Below w.heap.size w w') => h.below hB
      have hle := h.le
      obtain ⟨p, c, rfl, _, _, hp⟩ := IsRf.row_some3 h.row
      have hlR : l.length < R.length := by rw [hR]; simp
      obtain ⟨g, rfl⟩ := hp (by omega)
      have hW := h.below (below1 w (.cells #[.int .u8 k, .int .i64 n] 76))
      have hc := hW.c2
      obtain ⟨_, d1, _⟩ := hW.elem (j := l.length) (x := x) (by rw [hR]; simp)
      by_cases hkk : x.1.kind = k
      · have e1 : leadI R k n = l.length := by
          unfold leadI; rw [if_pos (hli.2 ⟨hk.1, hk.2, hkk⟩), hf]
        rw [e1]
        subst hkk
        clear e1 hli h hr2 hW hR hf hp
        go_enter Tryz.func103, Tryz.ntmps103
        go_wp2_with (first
          | (go_at_call 178; refine (H1 _ (below1 _ _)).mono ?_; clear H1; rintro e w' ⟨rfl, rfl⟩))
        go_quiet (fail)
        go_wp2
        go_ret
        exact ⟨rfl, below_drewN' (below1 _ _) _⟩
      · have e1 : leadI R k n = -1 := by
          unfold leadI; rw [if_neg (fun hh => hkk (hli.1 hh).2.2)]
        rw [e1]
        have hne : ((x.1.kind : Int) != (k : Int)) = true := by simp only [bne_iff_ne, ne_eq]; omega
        clear e1 hli h hr2 hW hR hf hp
        go_enter Tryz.func103, Tryz.ntmps103
        go_wp2_with (first
          | (go_at_call 178; refine (H1 _ (below1 _ _)).mono ?_; clear H1; rintro e w' ⟨rfl, rfl⟩))
        go_quiet (fail)
        go_wp2
        go_ret
        exact ⟨rfl, below_drewN' (below1 _ _) _⟩
  · have e1 : leadI R k n = -1 := by
      unfold leadI; rw [if_neg (fun hh => hk ⟨hh.1, hh.2.1⟩)]
    rw [e1]
    clear e1 h
    by_cases k1 : (k : Int) < 3
    · go_enter Tryz.func103, Tryz.ntmps103
      go_wp2
      go_ret
      exact ⟨rfl, below1 _ _⟩
    · have k2 : (7 : Int) < (k : Int) := by omega
      go_enter Tryz.func103, Tryz.ntmps103
      go_wp2
      go_ret
      exact ⟨rfl, below1 _ _⟩

/-- Val: of two words. -/
def valK (k : Nat) : Nat := if k ≤ 255 then k else 0

def valN (k n : Nat) : Int := if k ≤ 255 then wrap64 (n : Int) else 0

theorem val_leads {M : List Ob} (hu : ∀ o ∈ M, o.at_ < 1048576) {k n : Nat} (hn : n < 18446744073709551616) : Leads M (valK k) (valN k n) ↔ Leads M k n := by
  unfold valK valN
  split
  · unfold Leads
    rw [wrap_at hu hn]
  · constructor
    · rintro ⟨h, _⟩; omega
    · rintro ⟨_, h, _⟩; omega

set_option maxRecDepth 20000 in
set_option maxHeartbeats 1000000 in
theorem val_in (k n : Nat) (hk : k < 18446744073709551616) (hn : n < 18446744073709551616) (w : World) :
    Calls Tryz.prog 104 #[.int .u64 k, .int .u64 n] w fun e w' => e = .returned (.agg #[.int .u8 (valK k), .int .i64 (valN k n)]) ∧ Below w.heap.size w w' := by
  by_cases h : k ≤ 255
  · have h' : ¬ ((255 : Int) < (k : Int)) := by omega
    have e1 : valK k = k := by simp [valK, h]
    have e2 : valN k n = wrap64 n := by simp [valN, h]
    rw [e1, e2]
    clear e1 e2
    go_enter Tryz.func104, Tryz.ntmps104
    go_wp2
    refine bodyPost_ret (results_cell_row (by rfl) _ _ w.heap.size 76 _ _ _ (by rfl) (heap_alloc_new w _) Tryz.underlying76 (by rfl) infoVal) (by rfl) ?_
    exact ⟨rfl, below1 _ _⟩
  · have h' : (255 : Int) < (k : Int) := by omega
    have e1 : valK k = 0 := by simp [valK, h]
    have e2 : valN k n = 0 := by simp [valN, h]
    rw [e1, e2]
    clear e1 e2
    go_enter Tryz.func104, Tryz.ntmps104
    go_wp2
    refine bodyPost_ret (results_cell_row (by rfl) _ _ w.heap.size 76 _ _ _ (by rfl) (heap_alloc_new w _) Tryz.underlying76 (by rfl) infoVal) (by rfl) ?_
    exact ⟨rfl, below1 _ _⟩

/-- First. -/
def firstI (k : Nat) : Int := if k = 8 ∨ k = 7 then 0 else if k = 6 then 1 else -1

set_option maxHeartbeats 1000000 in
theorem first_in (k : Nat) (w : World) : Calls Tryz.prog 179 #[.int .u8 k] w fun e w' => e = .returned (.int .i64 (firstI k)) ∧ w' = w := by
  by_cases h8 : k = 8
  · subst h8
    go_enter Tryz.func179, Tryz.ntmps179
    go_wp2
    go_ret
    exact ⟨rfl, rfl⟩
  by_cases h7 : k = 7
  · subst h7
    go_enter Tryz.func179, Tryz.ntmps179
    go_wp2
    go_ret
    exact ⟨rfl, rfl⟩
  by_cases h6 : k = 6
  · subst h6
    go_enter Tryz.func179, Tryz.ntmps179
    go_wp2
    go_ret
    exact ⟨rfl, rfl⟩
  have e8 : ((k : Int) == 8) = false := by simp; omega
  have e7 : ((k : Int) == 7) = false := by simp; omega
  have e6 : ((k : Int) == 6) = false := by simp; omega
  have e : firstI k = -1 := by simp [firstI, h8, h7, h6]
  rw [e]
  clear e h8 h7 h6
  go_enter Tryz.func179, Tryz.ntmps179
  go_wp2
  go_ret
  exact ⟨rfl, rfl⟩

end Go.Proofs.YtampilfebmfhaaaGreatDoor
