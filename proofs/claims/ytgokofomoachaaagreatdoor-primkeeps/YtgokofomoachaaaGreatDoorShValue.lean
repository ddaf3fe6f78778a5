/- show's page.value: a value's text is put behind, given how a row's is. -/
import Derived.Test.YtgokofomoachaaaGreatDoorShTextMath
import Derived.Test.YtgokofomoachaaaGreatDoorShTold
import Derived.Test.YtgokofomoachaaaGreatDoorShLead
import Derived.Test.YtgokofomoachaaaGreatDoorShelf
import Derived.Lib.ItoaLen
namespace Go.Proofs.YtgokofomoachaaaGreatDoor
set_option linter.unusedVariables false
set_option linter.unusedSimpArgs false
open Go.RowKit

variable {w : World}

theorem tabG : ∃ g, Tryz.prog.globalNamed "internal/strconv.uint64pow10" = some g := by
  cases h : Tryz.prog.globalNamed "internal/strconv.uint64pow10" with
  | some g => exact ⟨g, rfl⟩
  | none => exact absurd h (by intro h; have : (Tryz.prog.globalNamed "internal/strconv.uint64pow10").isSome = true := by kernel_rfl
                               rw [h] at this; cases this)

/-- The table of powers of ten lies as the library lays it. -/
def Tab (w : World) : Prop := Lib.TabIs Tryz.prog w "internal/strconv.uint64pow10" .u64 Lib.pow10Tab

theorem Tab.below {w0 w : World} (h : Tab w0) (hB : Below w0.heap.size w0 w) : Tab w := by
  obtain ⟨g, hg⟩ := tabG
  unfold Tab Lib.TabIs World.var? at *
  rw [hg] at h ⊢
  simp only [Option.bind_some, Option.bind_eq_bind] at h ⊢
  by_cases hl : g < w0.heap.size
  · rw [hB.block g hl]; exact h
  · rw [Array.getElem?_eq_none (by omega)] at h
    simp at h

/-- What is given of a store. -/
structure Given (w0 : World) (p : Option Addr) (S : List Om) : Prop where
  st : IsSt w0 p S
  len : S.length ≤ maxLen
  str : ∀ o ∈ S, o.s.size ≤ 1048576
  fit : ∀ o ∈ S, o.fits
  tab : Tab w0

/-- How a value is put behind. -/
def ValueC (w0 : World) (bp c : Nat) (p : Option Addr) (S : List Om) (d : Int) (g : Vl → List UInt8) : Prop :=
  ∀ (w : World) (l : List UInt8) (v : Vl), v.fits → Below w0.heap.size w0 w → IsPg w0.heap.size bp (.slice p S.length c) l w → l.length ≤ 4096 →
    Calls Tryz.prog 264 #[.pointer (some ⟨bp, 0, none⟩), .agg #[.int .u8 v.k, .int .i64 v.n], .int .i64 d] w fun e w' => Puts w0.heap.size bp (.slice p S.length c) l (g v) w e w'

/-- How a list or a map is. -/
def RowC (w0 : World) (bp c : Nat) (p : Option Addr) (S : List Om) (d : Int) (R : Om → List UInt8) : Prop :=
  ∀ (w : World) (l : List UInt8) (o : Om) (qo : Option Addr) (co : Nat), o ∈ S → (o.k = 4 ∨ o.k = 5) → Vals w0 qo o.l → Below w0.heap.size w0 w → IsPg w0.heap.size bp (.slice p S.length c) l w → l.length ≤ 4096 →
    Calls Tryz.prog 271 #[.pointer (some ⟨bp, 0, none⟩), objV o qo co, .int .i64 d] w fun e w' => Puts w0.heap.size bp (.slice p S.length c) l (R o) w e w'

theorem yesOrNo_in (n : Int) (w : World) : Calls Tryz.prog 269 #[.int .i64 n] w fun e w' => e = .returned (.string ⟨(if n = 1 then [121, 101, 115] else [110, 111] : List UInt8).toArray⟩) ∧ w' = w := by
  by_cases h : n = 1
  · subst h
    go_enter Tryz.func269, Tryz.ntmps269
    go_wp2
    go_ret
    exact ⟨rfl, rfl⟩
  · have g : (n == 1) = false := by simpa using h
    rw [if_neg h]
    go_enter Tryz.func269, Tryz.ntmps269
    go_wp2
    go_ret
    exact ⟨rfl, rfl⟩

theorem cell_rowV {W : World} {g : Nat} {a b : Value} {t : TypeId} (h : W.heap[g]? = some (.cells #[a, b] t (0, 0))) : W.cell? ⟨g, 0, none⟩ = some a ∧ W.cell? ⟨g, 1, none⟩ = some b :=
  ⟨by rw [cell_of_row W g 0 _ _ _ h]; rfl, by rw [cell_of_row W g 1 _ _ _ h]; rfl⟩

theorem grow_below' (w : World) (k : Nat) (os : Array Obj) : Below w.heap.size w (Sort.grow (w.drewN k) os) :=
  ⟨rfl, rfl, rfl, by simp [Sort.grow, World.drewN], fun i hi => by
    have : (Sort.grow (w.drewN k) os).heap[i]? = (w.drewN k).heap[i]? := Sort.heap_grow_old _ _ (by simpa [World.drewN] using hi)
    rw [this]; rfl⟩

section
variable {w0 : World} {bp c : Nat} {p : Option Addr} {S : List Om} {d : Int} {R : Om → List UInt8}

set_option maxRecDepth 20000 in
set_option maxHeartbeats 1000000 in
/-- Values without objects. -/
theorem value_low (G : Given w0 p S) (w : World) (l : List UInt8) (k : Nat) (n : Int) (hk : k < 3) (hf : Vl.fits ⟨k, n⟩) (hB : Below w0.heap.size w0 w) (hp : IsPg w0.heap.size bp (.slice p S.length c) l w) (hl : l.length ≤ 4096) :
    Calls Tryz.prog 264 #[.pointer (some ⟨bp, 0, none⟩), .agg #[.int .u8 k, .int .i64 n], .int .i64 d] w fun e w' => Puts w0.heap.size bp (.slice p S.length c) l (txtW S R ⟨k, n⟩) w e w' := by
  have hA := below1 w (.cells #[.int .u8 k, .int .i64 n] 27)
  have hpA := hp.below hA
  have hsz := hB.size
  have hn : w0.heap.size ≤ (w.alloc (.cells #[.int .u8 k, .int .i64 n] 27)).heap.size := by simp; omega
  have hPA : PStep w0.heap.size bp w (w.alloc (.cells #[.int .u8 k, .int .i64 n] 27)) := PStep.of_below hA hsz
  rcases (show k = 0 ∨ k = 1 ∨ k = 2 by omega) with h | h | h
  · subst h
    have H := put_in hpA hn ⟨#[110, 105, 108]⟩ hl (by decide)
    go_enter Tryz.func264, Tryz.ntmps264
    go_wp2_with (first
      | (go_at_call 268; refine H.mono ?_; clear H; rintro e w2 ⟨b, rfl, h1, h2, h3⟩))
    go_ret
    exact ⟨b, rfl, hPA.trans h1, h2, h3⟩
  · subst h
    have e1 : txtW S R ⟨1, n⟩ = (if n = 1 then [121, 101, 115] else [110, 111]) := rfl
    rw [e1]
    have H0 := fun (W : World) => yesOrNo_in n W
    have hlt : (if n = 1 then [121, 101, 115] else [110, 111] : List UInt8).length ≤ 3 := by split <;> simp
    generalize (if n = 1 then [121, 101, 115] else [110, 111] : List UInt8) = t at *
    have H := put_in hpA hn ⟨t.toArray⟩ hl (by show t.toArray.size ≤ _; simp; omega)
    go_enter Tryz.func264, Tryz.ntmps264
    go_wp2_with (first
      | (go_at_call 269; refine (H0 _).mono ?_; clear H0; rintro e w1 ⟨rfl, rfl⟩)
      | (go_at_call 268; refine H.mono ?_; clear H; rintro e w2 ⟨b, rfl, h1, h2, h3⟩))
    go_ret
    exact ⟨b, rfl, hPA.trans h1, by simpa using h2, by simpa using h3⟩
  · subst h
    have e1 : txtW S R ⟨2, n⟩ = Lib.itoa n := rfl
    rw [e1]
    have hlen := Lib.itoa_length_le n hf.2.1 hf.2.2
    have H0 := Tryz.strconv_FormatInt_10 n hf.2.1 hf.2.2 (w.alloc (.cells #[.int .u8 2, .int .i64 n] 27)) (G.tab.below (hB.trans (hA.mono hsz)))
    have H := fun (W : World) (h : Below (w.alloc (.cells #[.int .u8 2, .int .i64 n] 27)).heap.size (w.alloc (.cells #[.int .u8 2, .int .i64 n] 27)) W) => put_in (hpA.below h) (Nat.le_trans hn h.size) ⟨(Lib.itoa n).toArray⟩ hl (by show (Lib.itoa n).toArray.size ≤ _; simp; omega)
    go_enter Tryz.func264, Tryz.ntmps264
    go_wp2_with (first
      | (go_at_call 270; refine H0.mono ?_; clear H0; rintro e w1 ⟨rfl, k', os', rfl⟩; have hG := grow_below' (w.alloc (.cells #[.int .u8 2, .int .i64 n] 27)) k' os')
      | (go_at_call 268; refine (H _ hG).mono ?_; clear H; rintro e w2 ⟨b, rfl, h1, h2, h3⟩))
    go_ret
    exact ⟨b, rfl, hPA.trans ((PStep.of_below hG hn).trans h1), by simpa using h2, by simpa using h3⟩

set_option maxRecDepth 20000 in
set_option maxHeartbeats 4000000 in
/-- Values with objects. -/
theorem value_high (G : Given w0 p S) (HR : RowC w0 bp c p S d R) (w : World) (l : List UInt8) (v : Vl) (hk : 3 ≤ v.k) (hB : Below w0.heap.size w0 w) (hp : IsPg w0.heap.size bp (.slice p S.length c) l w) (hl : l.length ≤ 4096) :
    Calls Tryz.prog 264 #[.pointer (some ⟨bp, 0, none⟩), .agg #[.int .u8 v.k, .int .i64 v.n], .int .i64 d] w fun e w' => Puts w0.heap.size bp (.slice p S.length c) l (txtW S R v) w e w' := by
  have b0 : ¬ ((v.k : Int) = 0) := by omega
  have b1 : ¬ ((v.k : Int) = 1) := by omega
  have b2 : ¬ ((v.k : Int) = 2) := by omega
  have g0 : ((v.k : Int) == 0) = false := by simpa using b0
  have g1 : ((v.k : Int) == 1) = false := by simpa using b1
  have g2 : ((v.k : Int) == 2) = false := by simpa using b2
  have hA := below1 w (.cells #[.int .u8 v.k, .int .i64 v.n] 27)
  have hpA := hp.below hA
  have hsz := hB.size
  have hn : w0.heap.size ≤ (w.alloc (.cells #[.int .u8 v.k, .int .i64 v.n] 27)).heap.size := by simp; omega
  have hPA : PStep w0.heap.size bp w (w.alloc (.cells #[.int .u8 v.k, .int .i64 v.n] 27)) := PStep.of_below hA hsz
  have hBA := hB.trans (hA.mono hsz)
  have hv0 := heap_alloc_new w (.cells #[.int .u8 v.k, .int .i64 v.n] 27)
  have hszA : (w.alloc (.cells #[.int .u8 v.k, .int .i64 v.n] 27)).heap.size = w.heap.size + 1 := by simp
  obtain ⟨ad, vb, hpb, -, -, -⟩ := hpA.all
  have hbl := hpA.lt
  obtain ⟨v0, v1⟩ := cell_rowV hv0
  obtain ⟨⟨-, -, s2⟩, -⟩ := cell_row3' hpb
  have hZ := below1 (w.alloc (.cells #[.int .u8 v.k, .int .i64 v.n] 27)) (.cells #[.int .u8 0, .string ⟨#[]⟩, .slice none 0 0, .int .i64 0, .int .i64 0] 96)
  have hAd : ∀ k, k < (w.alloc (.cells #[.int .u8 v.k, .int .i64 v.n] 27)).heap.size → ((w.alloc (.cells #[.int .u8 v.k, .int .i64 v.n] 27)).alloc (.cells #[.int .u8 0, .string ⟨#[]⟩, .slice none 0 0, .int .i64 0, .int .i64 0] 96)).heap[k]? = (w.alloc (.cells #[.int .u8 v.k, .int .i64 v.n] 27)).heap[k]? := fun k hk => Below.heap_alloc _ _ _ hk
  obtain ⟨v0', v1'⟩ := cell_rowV ((hAd w.heap.size (by simp)).trans hv0)
  obtain ⟨⟨-, -, s2'⟩, -⟩ := cell_row3' ((hAd bp hbl).trans hpb)
  have hnew := heap_alloc_new (w.alloc (.cells #[.int .u8 v.k, .int .i64 v.n] 27)) (.cells #[.int .u8 0, .string ⟨#[]⟩, .slice none 0 0, .int .i64 0, .int .i64 0] 96)
  obtain ⟨⟨z0, z1, z2, z3, z4⟩, y0, y1, y2, y3, y4⟩ := cell_row5 hnew
  have ne1 : bp ≠ (w.alloc (.cells #[.int .u8 v.k, .int .i64 v.n] 27)).heap.size := by omega
  have ne2 : w.heap.size ≠ (w.alloc (.cells #[.int .u8 v.k, .int .i64 v.n] 27)).heap.size := by omega
  cases hlead : leadO S v with
  | none =>
    have HL := fun (W : World) (h : Below w0.heap.size w0 W) => lead_none (c := c) (G.st.below h) G.len hlead
    unfold noObj at HL
    go_enter Tryz.func264, Tryz.ntmps264
    go_wp2
    generalize hWA : w.alloc (.cells #[.int .u8 v.k, .int .i64 v.n] 27) = WA at *
    clear hWA
    have hszB : w.heap.size < WA.heap.size := by omega
    clear hszA
    go_region_held3 (fun W => W.cell? ⟨bp, 2, none⟩ = some (.slice p S.length c) ∧ W.cell? ⟨w.heap.size, 0, none⟩ = some (.int .u8 v.k) ∧ W.cell? ⟨w.heap.size, 1, none⟩ = some (.int .i64 v.n)) (first | with_reducible exact ⟨s2, v0, v1⟩ | with_reducible exact ⟨s2', v0', v1'⟩ | with_reducible exact ⟨q0, q2, q3⟩ | with_reducible exact ⟨(cell_set5 ne1).trans q0, (cell_set5 ne2).trans q2, (cell_set5 ne2).trans q3⟩ | go_keep)
      ((first
        | (go_at_call 236; (with_reducible refine (HL _ (below_drew hBA)).mono ?_); rintro e w3 ⟨hB3, rfl⟩; obtain ⟨q2, q3⟩ := cell_rowV ((hB3.block w.heap.size (by show w.heap.size < WA.heap.size; omega)).trans hv0); obtain ⟨⟨-, -, q0⟩, -⟩ := cell_row3' ((hB3.block bp hbl).trans hpb); have hBw : Below WA.heap.size WA w3 := (below_drew (Below.refl _ WA)).trans hB3)
        | (go_at_call 236; (with_reducible refine (HL _ (below_drew (hBA.trans (hZ.mono hBA.size)))).mono ?_); rintro e w3 ⟨hB3, rfl⟩; obtain ⟨q2, q3⟩ := cell_rowV ((hB3.block w.heap.size (by simp; omega)).trans ((hAd w.heap.size (by omega)).trans hv0)); obtain ⟨⟨-, -, q0⟩, -⟩ := cell_row3' ((hB3.block bp (by simp; omega)).trans ((hAd bp hbl).trans hpb)); have hn3 := (hB3.block WA.heap.size (by simp)).trans hnew; obtain ⟨⟨g0, g1, g2, g3, g4⟩, f0, f1, f2, f3, f4⟩ := cell_row5 hn3; have hBw : Below WA.heap.size WA w3 := (below_drew hZ).trans (hB3.mono (by simp)))))
    all_goals
      first
        | (have hob := set5_row (x0 := .int .u8 0) (x1 := .string ⟨#[]⟩) (x2 := .slice none 0 0) (x3 := .int .i64 0) (x4 := .int .i64 0) hn3; have hBF := below_set5 hBw (Nat.le_refl _) (.int .u8 0) (.string ⟨#[]⟩) (.slice none 0 0) (.int .i64 0) (.int .i64 0); generalize hWF : World.setCell _ ⟨WA.heap.size, 4, none⟩ _ = WF at *)
        | (have hob := heap_alloc_new w3 (.cells #[.int .u8 0, .string ⟨#[]⟩, .slice none 0 0, .int .i64 0, .int .i64 0] 96); have hBF : Below WA.heap.size WA (w3.alloc (.cells #[.int .u8 0, .string ⟨#[]⟩, .slice none 0 0, .int .i64 0, .int .i64 0] 96)) := hBw.alloc hBw.size _; generalize hWF : World.alloc w3 _ = WF at *)
      clear hWF HL
      obtain ⟨⟨d0, d1, d2, d3, d4⟩, -⟩ := cell_row5 hob
      have hpF := hpA.below hBF
      have hPF : PStep w0.heap.size bp w WF := hPA.trans (PStep.of_below hBF hn)
      have hBF0 : Below w0.heap.size w0 WF := hBA.trans (hBF.mono hBA.size)
      have hnF : w0.heap.size ≤ WF.heap.size := Nat.le_trans hn hBF.size
      clear hob hBF hBw hB3 hnew z0 z1 z2 z3 z4 y0 y1 y2 y3 y4 v0 v1 s2 v0' v1' s2' q0 q2 q3 hZ hAd
      have e1 : txtW S R v = [63] := by unfold txtW; rw [if_neg (by omega), if_neg (by omega), if_neg (by omega), hlead]
      have E1 : Hid _ := e1
      clear e1
      have H := put_in hpF hnF ⟨#[63]⟩ hl (by decide)
      go_wp2_with (first
        | (go_at_call 268; refine H.mono ?_; clear H; rintro e w5 ⟨b, rfl, h1, h2, h3⟩))
      go_ret
      exact ⟨b, rfl, hPF.trans h1, by rw [E1.out]; exact h2, by rw [E1.out]; exact h3⟩

  | some o =>
    obtain ⟨hk3, hk7, hok, i0, -, -, hSi⟩ := leadO_some hlead
    have hoS := List.mem_of_getElem? hSi
    have ho3 : 3 ≤ o.k := by omega
    have ho7 : o.k ≤ 7 := by omega
    clear hok hSi
    have HL := fun (W : World) (h : Below w0.heap.size w0 W) => lead_some0 (w := W) (c := c) G.st h G.len hlead
    unfold objV at HL
    go_enter Tryz.func264, Tryz.ntmps264
    go_wp2
    generalize hWA : w.alloc (.cells #[.int .u8 v.k, .int .i64 v.n] 27) = WA at *
    clear hWA
    have hszB : w.heap.size < WA.heap.size := by omega
    clear hszA
    go_region_held3 (fun W => W.cell? ⟨bp, 2, none⟩ = some (.slice p S.length c) ∧ W.cell? ⟨w.heap.size, 0, none⟩ = some (.int .u8 v.k) ∧ W.cell? ⟨w.heap.size, 1, none⟩ = some (.int .i64 v.n)) (first | with_reducible exact ⟨s2, v0, v1⟩ | with_reducible exact ⟨s2', v0', v1'⟩ | with_reducible exact ⟨q0, q2, q3⟩ | with_reducible exact ⟨(cell_set5 ne1).trans q0, (cell_set5 ne2).trans q2, (cell_set5 ne2).trans q3⟩ | go_keep)
      ((first
        | (go_at_call 236; (with_reducible refine (HL _ (below_drew hBA)).mono ?_); rintro e w3 ⟨hB3, qo, co, rfl, hvo⟩; obtain ⟨q2, q3⟩ := cell_rowV ((hB3.block w.heap.size (by show w.heap.size < WA.heap.size; omega)).trans hv0); obtain ⟨⟨-, -, q0⟩, -⟩ := cell_row3' ((hB3.block bp hbl).trans hpb); have hBw : Below WA.heap.size WA w3 := (below_drew (Below.refl _ WA)).trans hB3)
        | (go_at_call 236; (with_reducible refine (HL _ (below_drew (hBA.trans (hZ.mono hBA.size)))).mono ?_); rintro e w3 ⟨hB3, qo, co, rfl, hvo⟩; obtain ⟨q2, q3⟩ := cell_rowV ((hB3.block w.heap.size (by simp; omega)).trans ((hAd w.heap.size (by omega)).trans hv0)); obtain ⟨⟨-, -, q0⟩, -⟩ := cell_row3' ((hB3.block bp (by simp; omega)).trans ((hAd bp hbl).trans hpb)); have hn3 := (hB3.block WA.heap.size (by simp)).trans hnew; obtain ⟨⟨g0, g1, g2, g3, g4⟩, f0, f1, f2, f3, f4⟩ := cell_row5 hn3; have hBw : Below WA.heap.size WA w3 := (below_drew hZ).trans (hB3.mono (by simp)))))
    all_goals
      first
        | (have hob := set5_row (x0 := .int .u8 o.k) (x1 := .string o.s) (x2 := .slice qo o.l.length co) (x3 := .int .i64 o.room) (x4 := .int .i64 o.fn) hn3; have hBF := below_set5 hBw (Nat.le_refl _) (.int .u8 o.k) (.string o.s) (.slice qo o.l.length co) (.int .i64 o.room) (.int .i64 o.fn); generalize hWF : World.setCell _ ⟨WA.heap.size, 4, none⟩ _ = WF at *)
        | (have hob := heap_alloc_new w3 (.cells #[.int .u8 o.k, .string o.s, .slice qo o.l.length co, .int .i64 o.room, .int .i64 o.fn] 96); have hBF : Below WA.heap.size WA (w3.alloc (.cells #[.int .u8 o.k, .string o.s, .slice qo o.l.length co, .int .i64 o.room, .int .i64 o.fn] 96)) := hBw.alloc hBw.size _; generalize hWF : World.alloc w3 _ = WF at *)
      clear hWF HL
      obtain ⟨⟨d0, d1, d2, d3, d4⟩, -⟩ := cell_row5 hob
      have hpF := hpA.below hBF
      have hPF : PStep w0.heap.size bp w WF := hPA.trans (PStep.of_below hBF hn)
      have hBF0 : Below w0.heap.size w0 WF := hBA.trans (hBF.mono hBA.size)
      have hnF : w0.heap.size ≤ WF.heap.size := Nat.le_trans hn hBF.size
      clear hob hBF hBw hB3 hnew z0 z1 z2 z3 z4 y0 y1 y2 y3 y4 v0 v1 s2 v0' v1' s2' q0 q2 q3 hZ hAd
      rcases (show o.k = 3 ∨ (o.k = 4 ∨ o.k = 5) ∨ o.k = 6 ∨ o.k = 7 by omega) with h | h | h | h
      · have e1 : txtW S R v = o.s.data.toList := by unfold txtW; rw [if_neg (by omega), if_neg (by omega), if_neg (by omega), hlead]; simp [h]
        have E1 : Hid _ := e1
        rw [h] at d0
        clear e1 h
        have H := put_in hpF hnF o.s hl (by have := G.str o hoS; omega)
        go_wp2_with (first
          | (go_at_call 268; refine H.mono ?_; clear H; rintro e w5 ⟨b, rfl, h1, h2, h3⟩))
        go_ret
        exact ⟨b, rfl, hPF.trans h1, by rw [E1.out]; exact h2, by rw [E1.out]; exact h3⟩
      · have e1 : txtW S R v = R o := by unfold txtW; rw [if_neg (by omega), if_neg (by omega), if_neg (by omega), hlead]; rcases h with h | h <;> simp [h]
        have E1 : Hid _ := e1
        have H := HR WF l o qo co hoS h hvo hBF0 hpF hl
        unfold objV at H
        clear e1
        rcases h with h | h
        all_goals
          rw [h] at d0 H
          clear h
          go_wp2_with (first
            | (go_at_call 271; refine H.mono ?_; clear H; rintro e w5 ⟨b, rfl, h1, h2, h3⟩))
          go_ret
          exact ⟨b, rfl, hPF.trans h1, by rw [E1.out]; exact h2, by rw [E1.out]; exact h3⟩
      · have e1 : txtW S R v = [102, 110, 32] ++ Lib.itoa o.fn := by unfold txtW; rw [if_neg (by omega), if_neg (by omega), if_neg (by omega), hlead]; simp [h]
        have E1 : Hid _ := e1
        rw [h] at d0
        clear e1 h
        have hff := (G.fit o hoS).2.2.2
        have hlen := Lib.itoa_length_le o.fn hff.1 hff.2
        have H0 := Tryz.strconv_Itoa o.fn hff.1 hff.2 WF (G.tab.below hBF0)
        have H := fun (W : World) (h : Below WF.heap.size WF W) => put_in (hpF.below h) (Nat.le_trans hnF h.size) ⟨([102, 110, 32] ++ Lib.itoa o.fn).toArray⟩ hl (by show ([102, 110, 32] ++ Lib.itoa o.fn).toArray.size ≤ _; simp; omega)
        go_wp2_with (first
          | (go_at_call 267; refine H0.mono ?_; clear H0; rintro e w4 ⟨rfl, k', os', rfl⟩; have hG := grow_below' WF k' os')
          | (go_at_call 268; refine (H _ hG).mono ?_; clear H; rintro e w5 ⟨b, rfl, h1, h2, h3⟩))
        go_ret
        exact ⟨b, rfl, hPF.trans ((PStep.of_below hG hnF).trans h1), by rw [E1.out]; simpa using h2, by rw [E1.out]; simpa using h3⟩
      · have e1 : txtW S R v = [63] := by unfold txtW; rw [if_neg (by omega), if_neg (by omega), if_neg (by omega), hlead]; simp [h]
        have E1 : Hid _ := e1
        rw [h] at d0
        clear e1 h
        have H := put_in hpF hnF ⟨#[63]⟩ hl (by decide)
        go_wp2_with (first
          | (go_at_call 268; refine H.mono ?_; clear H; rintro e w5 ⟨b, rfl, h1, h2, h3⟩))
        go_ret
        exact ⟨b, rfl, hPF.trans h1, by rw [E1.out]; exact h2, by rw [E1.out]; exact h3⟩


theorem value_of (G : Given w0 p S) (HR : RowC w0 bp c p S d R) : ValueC w0 bp c p S d (txtW S R) := by
  intro w l v hf hB hp hl
  by_cases hk : 3 ≤ v.k
  · exact value_high G HR w l v hk hB hp hl
  · obtain ⟨k, n⟩ := v
    exact value_low G w l k n (by dsimp only at hk; omega) hf hB hp hl

end

end Go.Proofs.YtgokofomoachaaaGreatDoor
