/- The document's items. -/
import Derived.Test.YtampilfebmfhaaaGreatDoorRgLeads
import Derived.Test.YtampilfebmfhaaaGreatDoorSame
namespace Go.Proofs.YtampilfebmfhaaaGreatDoor
set_option linter.unusedVariables false
set_option linter.unusedSimpArgs false
open Go.RowKit

variable {n₀ br all en : Nat} {vo : Value} {w : World} {R : List (Ob × Value)}

def agO (x : Ob × Value) : Value := .agg #[.int .i64 x.1.at_, .int .u8 x.1.kind, x.2]

/-- Where in the list a List's or a Map's Items stand; -1: nowhere. -/
def itemI (R : List (Ob × Value)) (o : Ob) : Int :=
  if o.kind = 4 ∨ o.kind = 5 then (match itemsL (R.map Prod.fst) o.ws with | y :: _ => findR y.to R | [] => -1) else -1

set_option maxRecDepth 20000 in
set_option maxHeartbeats 2000000 in
theorem ritems_in (h : IsRf n₀ br vo w all en R) (hs : Srt 0 (R.map Prod.fst)) {x : Ob × Value} (hx : x ∈ R) (h64 : ∀ y ∈ x.1.ws, y < 18446744073709551616) :
    Calls Tryz.prog 101 #[.pointer (some ⟨br, 0, none⟩), agO x] w fun e w' => e = .returned (.int .i64 (itemI R x.1)) ∧ Below w.heap.size w w' := by
  have hu : ∀ o ∈ R.map Prod.fst, o.at_ < 1048576 := fun o ho => by
    obtain ⟨y, hy, rfl⟩ := List.mem_map.1 ho
    exact (h.bnd y hy).1
  obtain ⟨hw1, hw2⟩ := h.wrds x hx
  obtain ⟨gw, cw, hxv⟩ := wform hw1 hw2
  have hwl := (h.bnd x hx).2.1
  unfold agO
  by_cases hk : x.1.kind = 4 ∨ x.1.kind = 5
  · have k45 : ∃ k : Nat, x.1.kind = k ∧ (((k : Int) != 4) = false ∨ (((k : Int) != 4) = true ∧ ((k : Int) != 5) = false)) := by
      rcases hk with e | e
      · exact ⟨4, e, .inl rfl⟩
      · exact ⟨5, e, .inr ⟨rfl, rfl⟩⟩
    obtain ⟨k, ek, k45⟩ := k45
    have eI : itemI R x.1 = (match itemsL (R.map Prod.fst) x.1.ws with | y :: _ => findR y.to R | [] => -1) := by unfold itemI; rw [if_pos hk]
    rw [ek, hxv]
    clear hk ek
    by_cases hlen : x.1.ws.length < 2
    · have e1 : x.1.ws[1]? = none := List.getElem?_eq_none_iff.2 (by omega)
      have e2 : itemI R x.1 = -1 := by rw [eI]; simp [itemsL, e1]
      rw [e2]
      have hlen' : (x.1.ws.length : Int) < 2 := by omega
      clear e1 e2 eI h hw1 hw2 hxv
      rcases k45 with k4 | ⟨k4, k5⟩
      · go_enter Tryz.func101, Tryz.ntmps101
        go_wp2
        go_ret
        exact ⟨rfl, below1 _ _⟩
      · go_enter Tryz.func101, Tryz.ntmps101
        go_wp2
        go_ret
        exact ⟨rfl, below1 _ _⟩
    · obtain ⟨y, hy⟩ : ∃ y, x.1.ws[1]? = some y := ⟨x.1.ws[1]'(by omega), by simp⟩
      have hy64 := h64 y (List.mem_of_getElem? hy)
      have hlen' : ¬ ((x.1.ws.length : Int) < 2) := by omega
      have hWb := h.below (below1 w (.cells #[.int .i64 x.1.at_, .int .u8 k, .slice (some ⟨gw, 0, none⟩) x.1.ws.length cw] 85))
      have d1 : (w.alloc (.cells #[.int .i64 x.1.at_, .int .u8 k, .slice (some ⟨gw, 0, none⟩) x.1.ws.length cw] 85)).cell? ⟨gw, 1, none⟩ = some (.int .u64 y) := by
        have := (hWb.wrds x hx).1
        rw [hxv] at this
        exact row_cell this (by simp [hy, wv]) (by omega)
      by_cases hy0 : y = 0
      · subst hy0
        have e2 : itemI R x.1 = -1 := by rw [eI]; simp [itemsL, hy]
        rw [e2]
        clear e2 eI h hw1 hw2 hxv hWb
        rcases k45 with k4 | ⟨k4, k5⟩
        · go_enter Tryz.func101, Tryz.ntmps101
          go_wp2
          go_ret
          exact ⟨rfl, below1 _ _⟩
        · go_enter Tryz.func101, Tryz.ntmps101
          go_wp2
          go_ret
          exact ⟨rfl, below1 _ _⟩
      · have hy0b : ((y : Int) == 0) = false := by simp; omega
        have ez : wrap64 ((y : Int) - 1) = wrap64 ((y - 1 : Nat) : Int) := by congr 1; omega
        have hI := wrap_at hu (n := y - 1) (by omega) 8
        rw [← ez] at hI
        obtain ⟨z, hz⟩ : ∃ z, wrap64 ((y : Int) - 1) = z := ⟨_, rfl⟩
        rw [hz] at hI
        have H1 := fun w' (hB : Below w.heap.size w w') => find_r (h.below hB) z
        clear ez
        rcases find_cases R hs z with hn | ⟨l, x', r, hR, hxz, hl⟩
        · have e2 : itemI R x.1 = -1 := by
            rw [eI]
            have : ¬ Is (R.map Prod.fst) 8 ((y - 1 : Nat) : Int) := fun hh => by
              obtain ⟨q, hq, e, _⟩ := hI.2 hh
              obtain ⟨q', hq', rfl⟩ := List.mem_map.1 hq
              exact hn q' hq' e
            simp only [itemsL, hy]
            rw [if_neg (fun hh => this hh.2)]
          rw [e2]
          rw [findR_none hn] at H1
          clear e2 eI h hw1 hw2 hxv hWb hI hn
          rcases k45 with k4 | ⟨k4, k5⟩
          · go_enter Tryz.func101, Tryz.ntmps101
            go_wp2_with (first
              | (go_at_call 178; refine (H1 _ (below1 _ _)).mono ?_; clear H1; rintro e w' ⟨rfl, rfl⟩))
            go_ret
            exact ⟨rfl, below1 _ _⟩
          · go_enter Tryz.func101, Tryz.ntmps101
            go_wp2_with (first
              | (go_at_call 178; refine (H1 _ (below1 _ _)).mono ?_; clear H1; rintro e w' ⟨rfl, rfl⟩))
            go_ret
            exact ⟨rfl, below1 _ _⟩
        · have hf : findR z R = l.length := by rw [hR]; exact findR_at (fun q hq e => hl q hq (by omega)) hxz
          have hxm : x'.1 ∈ R.map Prod.fst := List.mem_map.2 ⟨x', by rw [hR]; simp, rfl⟩
          rw [hf] at H1
          have hle := h.le
          have hlR : l.length < R.length := by rw [hR]; simp
          obtain ⟨p, c, rfl, _, _, hp⟩ := IsRf.row_some3 h.row
          obtain ⟨g, rfl⟩ := hp (by omega)
          have hc := hWb.c2
          obtain ⟨_, d2, _⟩ := hWb.elem (j := l.length) (x := x') (by rw [hR]; simp)
          have hat : x'.1.at_ = y - 1 := by
            have := hu _ hxm
            rw [← hz] at hxz
            simp only [wrap64] at hxz
            omega
          by_cases h8 : x'.1.kind = 8
          · have e2 : itemI R x.1 = l.length := by
              rw [eI]
              simp only [itemsL, hy]
              rw [if_pos ⟨hy0, x'.1, hxm, by omega, h8⟩]
              simp only
              rw [← hat, hxz, hf]
            rw [e2]
            rw [h8] at d2
            clear e2 eI h hw1 hw2 hxv hWb hI hR hp hf
            rcases k45 with k4 | ⟨k4, k5⟩
            · go_enter Tryz.func101, Tryz.ntmps101
              go_wp2_with (first
                | (go_at_call 178; refine (H1 _ (below1 _ _)).mono ?_; clear H1; rintro e w' ⟨rfl, rfl⟩))
              go_ret
              exact ⟨rfl, below1 _ _⟩
            · go_enter Tryz.func101, Tryz.ntmps101
              go_wp2_with (first
                | (go_at_call 178; refine (H1 _ (below1 _ _)).mono ?_; clear H1; rintro e w' ⟨rfl, rfl⟩))
              go_ret
              exact ⟨rfl, below1 _ _⟩
          · have e2 : itemI R x.1 = -1 := by
              rw [eI]
              simp only [itemsL, hy]
              rw [if_neg]
              rintro ⟨_, q, hq, e, e8⟩
              obtain rfl := hs.uniq hq hxm (by omega)
              exact h8 e8
            rw [e2]
            have h8b : ((x'.1.kind : Int) != 8) = true := by simp only [bne_iff_ne, ne_eq]; omega
            clear e2 eI h hw1 hw2 hxv hWb hI hR hp hf
            rcases k45 with k4 | ⟨k4, k5⟩
            · go_enter Tryz.func101, Tryz.ntmps101
              go_wp2_with (first
                | (go_at_call 178; refine (H1 _ (below1 _ _)).mono ?_; clear H1; rintro e w' ⟨rfl, rfl⟩))
              go_ret
              exact ⟨rfl, below1 _ _⟩
            · go_enter Tryz.func101, Tryz.ntmps101
              go_wp2_with (first
                | (go_at_call 178; refine (H1 _ (below1 _ _)).mono ?_; clear H1; rintro e w' ⟨rfl, rfl⟩))
              go_ret
              exact ⟨rfl, below1 _ _⟩
  · have e2 : itemI R x.1 = -1 := by unfold itemI; rw [if_neg hk]
    rw [e2, hxv]
    have k4 : ((x.1.kind : Int) != 4) = true := by simp only [bne_iff_ne, ne_eq]; omega
    have k5 : ((x.1.kind : Int) != 5) = true := by simp only [bne_iff_ne, ne_eq]; omega
    clear e2 h hw1 hw2 hxv hk
    go_enter Tryz.func101, Tryz.ntmps101
    go_wp2
    go_ret
    exact ⟨rfl, below1 _ _⟩

end Go.Proofs.YtampilfebmfhaaaGreatDoor
