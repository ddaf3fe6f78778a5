/- May a value be, may an object be: plainly; the document's val, held. -/
import Derived.Test.YtppjahnahomkeaaShForm
import Derived.Test.YtppjahnahomkeaaShRef
namespace Go.Proofs.Ytppjahnahomkeaa
set_option linter.unusedVariables false
set_option linter.unusedSimpArgs false
open Go.RowKit

variable {w : World}

/-- May a value be, but for what its object has? -/
def valP (S : List Om) (v : Vl) : Prop := (v.k = 0 → v.n = 0) ∧ (v.k = 1 → v.n = 0 ∨ v.n = 1) ∧ (3 ≤ v.k → leadO S v ≠ none)

/-- May all values be, and are they all cells, or none? -/
def heldP (S : List Om) (l : List Vl) (cells : Prop) : Prop := ∀ v ∈ l, valP S v ∧ (v.k = 7 ↔ cells)

/-- Are two values the same? -/
def sameP (S : List Om) (a b : Vl) : Prop := a.k = b.k ∧ (a.k = 0 ∨ a.n = b.n ∨ (a.k = 3 ∧ ∃ o o', leadO S a = some o ∧ leadO S b = some o' ∧ o.s = o'.s))

/-- No two keys are the same. -/
def keysP (S : List Om) (l : List Vl) : Prop := ∀ i j a b, l[2 * i]? = some a → l[2 * j]? = some b → j < i → ¬ sameP S a b

/-- May an object be, but for the objects of its values? -/
def objP (S : List Om) (o : Om) : Prop := formP o ∧ heldP S o.l (o.k = 6) ∧ (o.k = 5 → keysP S o.l)

set_option maxHeartbeats 1000000 in
theorem rVal_in {p : Option Addr} {S : List Om} (c : Nat) (hs : IsSt w p S) (hl : S.length ≤ 1048576) (v : Vl) (b : Bool) (hb : b = true ↔ valP S v) :
    Calls Try.prog 21 #[.slice p S.length c, .agg #[.int .u8 v.k, .int .i64 v.n]] w fun e w' => e = .returned (.bool b) ∧ Below w.heap.size w w' := by
  obtain ⟨k, n⟩ := v
  dsimp only
  have H := fun (W : World) (h : Below w.heap.size w W) => rLeads_in c (hs.below h) hl ⟨k, n⟩
  by_cases h0 : k = 0
  · subst h0
    by_cases hn : n = 0
    · rw [b_true hb ⟨fun _ => hn, (fun h => absurd h (by dsimp only; omega)), fun h => absurd h (by dsimp only; omega)⟩]
      clear hb H
      subst hn
      go_enter Try.func21, Try.ntmps21
      go_wp2
      go_ret
      exact ⟨rfl, below1 _ _⟩
    · rw [b_false hb (fun h => hn (h.1 rfl))]
      clear hb H
      have g : (n == 0) = false := by simpa using hn
      go_enter Try.func21, Try.ntmps21
      go_wp2
      go_ret
      refine ⟨?_, below1 _ _⟩
      first | rfl | (simp_all; done)
  · have b0 : ¬ ((k : Int) = 0) := by omega
    by_cases h1 : k = 1
    · subst h1
      clear b0 h0
      by_cases hn : n = 0
      · rw [b_true hb ⟨(fun h => absurd h (by dsimp only; omega)), fun _ => .inl hn, fun h => absurd h (by dsimp only; omega)⟩]
        clear hb H
        subst hn
        go_enter Try.func21, Try.ntmps21
        go_wp2
        go_ret
        exact ⟨rfl, below1 _ _⟩
      · by_cases hn1 : n = 1
        · rw [b_true hb ⟨(fun h => absurd h (by dsimp only; omega)), fun _ => .inr hn1, fun h => absurd h (by dsimp only; omega)⟩]
          clear hb H hn
          subst hn1
          go_enter Try.func21, Try.ntmps21
          go_wp2
          go_ret
          exact ⟨rfl, below1 _ _⟩
        · rw [b_false hb (fun h => by rcases h.2.1 rfl with h | h; exact hn h; exact hn1 h)]
          clear hb H
          have g : (n == 0) = false := by simpa using hn
          have g' : (n == 1) = false := by simpa using hn1
          go_enter Try.func21, Try.ntmps21
          go_wp2
          go_ret
          refine ⟨?_, below1 _ _⟩
          first | rfl | (simp_all; done)
    · have b1 : ¬ ((k : Int) = 1) := by omega
      by_cases h2 : k = 2
      · subst h2
        clear b0 h0 b1 h1
        rw [b_true hb ⟨(fun h => absurd h (by dsimp only; omega)), (fun h => absurd h (by dsimp only; omega)), fun h => absurd h (by dsimp only; omega)⟩]
        clear hb H
        go_enter Try.func21, Try.ntmps21
        go_wp2
        go_ret
        exact ⟨rfl, below1 _ _⟩
      · have b2 : ¬ ((k : Int) = 2) := by omega
        cases hle : leadO S ⟨k, n⟩ with
        | none =>
          rw [b_false hb (fun h => h.2.2 (by dsimp only; omega) hle)]
          have e1 : leadI S ⟨k, n⟩ = -1 := by unfold leadI; rw [hle]
          rw [e1] at H
          clear hb h0 h1 h2 hle e1
          go_enter Try.func21, Try.ntmps21
          go_wp2_with (first
            | (go_at_call 33; refine (H _ (below1 _ _)).mono ?_; clear H; rintro e w1 ⟨hB1, rfl⟩))
          go_ret
          exact ⟨rfl, (below1 w _).trans (hB1.mono (by simp))⟩
        | some o =>
          rw [b_true hb ⟨fun h => absurd h h0, fun h => absurd h h1, fun _ => by rw [hle]; simp⟩]
          obtain ⟨-, -, -, i, hni, -, -⟩ := leadO_some hle
          have e1 : leadI S ⟨k, n⟩ = (i : Int) := by
            unfold leadI; rw [hle]; dsimp only at hni ⊢; omega
          rw [e1] at H
          have hi0 : (0 : Int) ≤ (i : Int) := by omega
          clear hb h0 h1 h2 hle e1 hni
          go_enter Try.func21, Try.ntmps21
          go_wp2_with (first
            | (go_at_call 33; refine (H _ (below1 _ _)).mono ?_; clear H; rintro e w1 ⟨hB1, rfl⟩))
          go_ret
          exact ⟨rfl, (below1 w _).trans (hB1.mono (by simp))⟩

theorem heldP_snoc {S : List Om} {l : List Vl} {v : Vl} {c : Prop} : heldP S (l ++ [v]) c ↔ heldP S l c ∧ valP S v ∧ (v.k = 7 ↔ c) := by
  unfold heldP
  constructor
  · intro h
    exact ⟨fun u hu => h u (by simp [hu]), h v (by simp)⟩
  · rintro ⟨h1, h2⟩ u hu
    rcases List.mem_append.1 hu with hu | hu
    · exact h1 u hu
    · simp at hu; subst hu; exact h2

set_option maxRecDepth 20000 in
set_option maxHeartbeats 2000000 in
theorem rHeld_in {p q : Option Addr} {S : List Om} {l : List Vl} (c cq : Nat) (hs : IsSt w p S) (hl : S.length ≤ 1048576) (hv : Vals w q l) (hll : l.length ≤ 1048576) (cells b : Bool) (hb : b = true ↔ heldP S l (cells = true)) :
    Calls Try.prog 34 #[.slice p S.length c, .slice q l.length cq, .bool cells] w fun e w' => e = .returned (.bool b) ∧ Below w.heap.size w w' := by
  go_enter Try.func34, Try.ntmps34
  go_wp2
  go_loopw [7] (fun k wr => ∃ j : Nat, k = .int .i64 j ∧ j ≤ l.length ∧ heldP S (l.take j) (cells = true) ∧ Below w.heap.size w wr) (fun k _ => l.length - (intOf k).toNat)
  case atStart => exact ⟨0, rfl, by omega, by simp [heldP], Below.refl _ _⟩
  case round =>
    obtain ⟨j, rfl, hj, hh, hB⟩ := hrel
    by_cases hjn : j < l.length
    · obtain ⟨v, hvj⟩ : ∃ v, l[j]? = some v := ⟨l[j], by simp⟩
      obtain ⟨b0, off, rfl, c0, c1⟩ := (hv.below hB) j v hvj
      obtain ⟨b1, hb1⟩ := b_of (valP S v)
      have H := fun (W : World) (h : Below w.heap.size w W) => rVal_in c (hs.below h) hl v b1 hb1
      have hjn' : (j : Int) < (l.length : Int) := by omega
      have hst : l.take (j + 1) = l.take j ++ [v] := by rw [List.take_add_one, hvj]; rfl
      have HS : Hid _ := And.intro hst hh
      have hvl := hv.below hB
      have hmem := List.mem_of_getElem? hvj
      clear hst hh hvj
      cases b1 with
      | false =>
        have hbf : b = false := b_false hb (fun h => by have := hb1.2 (h v hmem).1; cases this)
        subst hbf
        clear hb hb1
        go_wp2_with (first
          | (go_at_call 21; refine (H _ hB).mono ?_; clear H; rintro e w1 ⟨rfl, hB1⟩))
        go_ret
        exact ⟨rfl, hB.trans (hB1.mono hB.size)⟩
      | true =>
        have hval := hb1.1 rfl
        have hcell := fun (W : World) (h : Below wr.heap.size wr W) => hvl.below h
        by_cases h7 : v.k = 7
        · rw [h7] at c0 H
          have cB : ∀ (W : World), Below wr.heap.size wr W → W.cell? ⟨b0, off + j * 2, none⟩ = some (.int .u8 7) := fun W h => (h.cell (p := ⟨b0, off + j * 2, none⟩) (World.block_lt_of_cell? wr _ c0)).trans c0
          cases cells with
          | true =>
            clear hcell hvl hb1
            go_wp2_with (first
              | (go_at_call 21; refine (H _ hB).mono ?_; clear H; rintro e w1 ⟨rfl, hB1⟩; have c2 := cB _ hB1; clear cB))
            go_roundw
            case rel =>
              refine ⟨j + 1, by simp, by omega, ?_, hB.trans (hB1.mono hB.size)⟩
              rw [HS.out.1, heldP_snoc]
              exact ⟨HS.out.2, hval, by simp [h7]⟩
            case measure => simp [intOf]; omega
          | false =>
            have hbf : b = false := b_false hb (fun h => by have := (h v hmem).2.1 h7; cases this)
            subst hbf
            clear hb hcell hvl hb1
            go_wp2_with (first
              | (go_at_call 21; refine (H _ hB).mono ?_; clear H; rintro e w1 ⟨rfl, hB1⟩; have c2 := cB _ hB1; clear cB))
            go_ret
            exact ⟨rfl, hB.trans (hB1.mono hB.size)⟩
        · have h7' : ¬ ((v.k : Int) = 7) := by omega
          have g7 : ((v.k : Int) == 7) = false := by simpa using h7'
          have cB : ∀ (W : World), Below wr.heap.size wr W → W.cell? ⟨b0, off + j * 2, none⟩ = some (.int .u8 v.k) := fun W h => (h.cell (p := ⟨b0, off + j * 2, none⟩) (World.block_lt_of_cell? wr _ c0)).trans c0
          cases cells with
          | false =>
            clear hcell hvl hb1
            go_wp2_with (first
              | (go_at_call 21; refine (H _ hB).mono ?_; clear H; rintro e w1 ⟨rfl, hB1⟩; have c2 := cB _ hB1; clear cB))
            go_roundw
            case rel =>
              refine ⟨j + 1, by simp, by omega, ?_, hB.trans (hB1.mono hB.size)⟩
              rw [HS.out.1, heldP_snoc]
              exact ⟨HS.out.2, hval, by simp [h7]⟩
            case measure => simp [intOf]; omega
          | true =>
            have hbf : b = false := b_false hb (fun h => h7 ((h v hmem).2.2 rfl))
            subst hbf
            clear hb hcell hvl hb1
            go_wp2_with (first
              | (go_at_call 21; refine (H _ hB).mono ?_; clear H; rintro e w1 ⟨rfl, hB1⟩; have c2 := cB _ hB1; clear cB))
            go_ret
            exact ⟨rfl, hB.trans (hB1.mono hB.size)⟩
    · have hjn' : ¬ ((j : Int) < (l.length : Int)) := by omega
      rw [List.take_of_length_le (by omega)] at hh
      have hbt := b_true hb hh
      subst hbt
      clear hb hh
      go_wp2
      go_ret
      exact ⟨rfl, hB⟩

end Go.Proofs.Ytppjahnahomkeaa
