/- The document's teller: a value. -/
import Derived.Test.YtgokofomoachaaaGreatDoorShDigits
namespace Go.Proofs.YtgokofomoachaaaGreatDoor
set_option linter.unusedVariables false
set_option linter.unusedSimpArgs false
open Go.RowKit

variable {w : World}

/-- How a value is put. -/
def TValC (w0 : World) (bt c : Nat) (p : Option Addr) (S : List Om) (d : Int) (g : Vl → List UInt8) : Prop :=
  ∀ (w : World) (l : List UInt8) (lg : Bool) (v : Vl), v.fits → Below w0.heap.size w0 w → Tl w0.heap.size bt (.slice p S.length c) l lg w →
    Calls Tryz.prog 177 #[.pointer (some ⟨bt, 0, none⟩), .agg #[.int .u8 v.k, .int .i64 v.n], .int .i64 d] w fun e w' => TPuts w0.heap.size bt (.slice p S.length c) l lg (g v) w e w'

/-- How a list or a map is. -/
def TRowC (w0 : World) (bt c : Nat) (p : Option Addr) (S : List Om) (d : Int) (R : Om → List UInt8) : Prop :=
  ∀ (w : World) (l : List UInt8) (lg : Bool) (o : Om) (qo : Option Addr) (co : Nat), o ∈ S → (o.k = 4 ∨ o.k = 5) → Vals w0 qo o.l → Below w0.heap.size w0 w → Tl w0.heap.size bt (.slice p S.length c) l lg w →
    Calls Tryz.prog 248 #[.pointer (some ⟨bt, 0, none⟩), objV o qo co, .int .i64 d] w fun e w' => TPuts w0.heap.size bt (.slice p S.length c) l lg (R o) w e w'

theorem TPuts.after {n₀ bt : Nat} {vs : Value} {l x : List UInt8} {lg : Bool} {w w1 w' : World} {e : Ending} (h : TPuts n₀ bt vs l lg x w1 e w') (hP : PStep n₀ bt w w1) : TPuts n₀ bt vs l lg x w e w' := by
  obtain ⟨he, l', lg', h1, h2, h3⟩ := h
  exact ⟨he, l', lg', h1, h2, hP.trans h3⟩

section
variable {w0 : World} {bt c : Nat} {p : Option Addr} {S : List Om} {d : Int} {R : Om → List UInt8}

theorem leadI_none {v : Vl} (h : leadO S v = none) : leadI S v = -1 := by unfold leadI; rw [h]

theorem leadI_some {v : Vl} {o : Om} (h : leadO S v = some o) : leadI S v = v.n - 1 := by unfold leadI; rw [h]

theorem leadO_low {v : Vl} (h : v.k < 3) : leadO S v = none := by unfold leadO; rw [if_neg (by omega)]

set_option maxRecDepth 20000 in
set_option maxHeartbeats 1000000 in
/-- Values without objects. -/
theorem tval_low (hs : IsSt w0 p S) (hl : S.length ≤ 1048576) (w : World) (l : List UInt8) (lg : Bool) (v : Vl) (hk : v.k < 3) (hf : v.fits) (hB : Below w0.heap.size w0 w) (ht : Tl w0.heap.size bt (.slice p S.length c) l lg w) :
    Calls Tryz.prog 177 #[.pointer (some ⟨bt, 0, none⟩), .agg #[.int .u8 v.k, .int .i64 v.n], .int .i64 d] w fun e w' => TPuts w0.heap.size bt (.slice p S.length c) l lg (txtW S R v) w e w' := by
  have hA := below1 w (.cells #[.int .u8 v.k, .int .i64 v.n] 27)
  have hbx := heap_alloc_new w (.cells #[.int .u8 v.k, .int .i64 v.n] 27)
  have htA := ht.below hA
  have hsz := hB.size
  have hBA := hB.trans (hA.mono hsz)
  have hPA : PStep w0.heap.size bt w (w.alloc (.cells #[.int .u8 v.k, .int .i64 v.n] 27)) := PStep.of_below hA hsz
  have hszA := hA.size
  obtain ⟨vb, hblk, hown⟩ := htA.all
  obtain ⟨⟨t0, t1, t2⟩, -⟩ := cell_row3' hblk
  obtain ⟨x0, x1⟩ := cell_rowV hbx
  have HLd := fun (W : World) (h : Below w0.heap.size w0 W) => rLeads_in c (hs.below h) hl v
  generalize hWA : w.alloc (.cells #[.int .u8 v.k, .int .i64 v.n] 27) = WA at *
  have HF : ∀ (W : World), Below WA.heap.size WA W → W.cell? ⟨bt, 0, none⟩ = some (.slice p S.length c) ∧ W.cell? ⟨w.heap.size, 0, none⟩ = some (.int .u8 v.k) ∧ W.cell? ⟨w.heap.size, 1, none⟩ = some (.int .i64 v.n) := fun W h =>
    ⟨(h.cell (p := ⟨bt, 0, none⟩) (Array.getElem?_eq_some_iff.1 hblk).1).trans t0, (h.cell (p := ⟨w.heap.size, 0, none⟩) (Array.getElem?_eq_some_iff.1 hbx).1).trans x0, (h.cell (p := ⟨w.heap.size, 1, none⟩) (Array.getElem?_eq_some_iff.1 hbx).1).trans x1⟩
  have hBd := below_drew (Below.refl WA.heap.size WA)
  have hBAd : Below w0.heap.size w0 WA.drew := below_drew hBA
  have hli := leadI_none (leadO_low (S := S) hk)
  rw [hli] at HLd
  have HX : ∃ x, x = txtW S R v := ⟨_, rfl⟩
  obtain ⟨x, hx⟩ := HX
  rw [← hx]
  have HXX : Hid _ := hx
  clear hx hown t1 t2
  go_enter Tryz.func177, Tryz.ntmps177
  go_wp2
  go_region_held3 (fun W => W.cell? ⟨bt, 0, none⟩ = some (.slice p S.length c) ∧ W.cell? ⟨w.heap.size, 0, none⟩ = some (.int .u8 v.k) ∧ W.cell? ⟨w.heap.size, 1, none⟩ = some (.int .i64 v.n))
    (first | with_reducible exact HF _ hBd | with_reducible exact HF _ hB2)
    (first | (go_at_call 245; (with_reducible refine (HLd _ hBAd).mono ?_); rintro e w2 ⟨hB2a, rfl⟩; have hB2 : Below WA.heap.size WA w2 := hBd.trans hB2a))
  all_goals
    obtain ⟨y0, y1, y2⟩ := HF w2 hB2
    have ht2 := htA.below hB2
    have hB2' : Below w0.heap.size w0 w2 := hBA.trans (hB2.mono hBA.size)
    have hP2 : PStep w0.heap.size bt w w2 := hPA.trans (PStep.of_below hB2 hBA.size)
    have hn2 := hB2'.size
    rcases (show v.k = 0 ∨ v.k = 1 ∨ v.k = 2 by omega) with hk0 | hk0 | hk0
    · have q0 : ((v.k : Nat) : Int) = 0 := by omega
      have H := tput_in ht2 hn2 ⟨#[110, 105, 108]⟩ (by decide)
      go_wp2_with (first
        | (go_at_call 246; (with_reducible refine H.mono ?_); clear H; rintro e w3 hT; have hT' := hT; obtain ⟨rfl, -⟩ := hT'))
      go_end0
      rw [HXX.out]
      have e1 : txtW S R v = [110, 105, 108] := by unfold txtW; rw [if_pos hk0]
      rw [e1]
      exact hT.after hP2
    · have q0 : ¬ (((v.k : Nat) : Int) = 0) := by omega
      have q1 : ((v.k : Nat) : Int) = 1 := by omega
      by_cases hn1 : v.n = 1
      · have H := tput_in ht2 hn2 ⟨#[121, 101, 115]⟩ (by decide)
        go_wp2_with (first
          | (go_at_call 246; (with_reducible refine H.mono ?_); clear H; rintro e w3 hT; have hT' := hT; obtain ⟨rfl, -⟩ := hT'))
        go_end0
        rw [HXX.out]
        have e1 : txtW S R v = [121, 101, 115] := by unfold txtW; rw [if_neg (by omega), if_pos hk0, if_pos hn1]
        rw [e1]
        exact hT.after hP2
      · have H := tput_in ht2 hn2 ⟨#[110, 111]⟩ (by decide)
        go_wp2_with (first
          | (go_at_call 246; (with_reducible refine H.mono ?_); clear H; rintro e w3 hT; have hT' := hT; obtain ⟨rfl, -⟩ := hT'))
        go_end0
        rw [HXX.out]
        have e1 : txtW S R v = [110, 111] := by unfold txtW; rw [if_neg (by omega), if_pos hk0, if_neg hn1]
        rw [e1]
        exact hT.after hP2
    · have q0 : ¬ (((v.k : Nat) : Int) = 0) := by omega
      have q1 : ¬ (((v.k : Nat) : Int) = 1) := by omega
      have q2 : ((v.k : Nat) : Int) = 2 := by omega
      have hil := Lib.itoa_length_le v.n hf.2.1 hf.2.2
      have HD := rDigits_in v.n hf.2.1 hf.2.2
      have hsi : (⟨(Lib.itoa v.n).toArray⟩ : ByteArray).size ≤ 1099511627776 := by show (Lib.itoa v.n).toArray.size ≤ _; simp; omega
      have H := fun (W : World) (hW : Below w2.heap.size w2 W) => tput_in (ht2.below hW) (Nat.le_trans hn2 hW.size) ⟨(Lib.itoa v.n).toArray⟩ hsi
      go_wp2_with (first
        | (go_at_call 247; (with_reducible refine (HD _).mono ?_); clear HD; rintro e w3 ⟨rfl, hB3⟩)
        | (go_at_call 246; (with_reducible refine (H _ hB3).mono ?_); clear H; rintro e w4 hT; have hT' := hT; obtain ⟨rfl, -⟩ := hT'))
      go_end0
      rw [HXX.out]
      have e1 : txtW S R v = Lib.itoa v.n := by unfold txtW; rw [if_neg (by omega), if_neg (by omega), if_pos hk0]
      rw [e1]
      exact (hT.after (PStep.of_below hB3 hn2)).after hP2

set_option maxRecDepth 20000 in
set_option maxHeartbeats 1000000 in
/-- Values whose objects are not there. -/
theorem tval_none (hs : IsSt w0 p S) (hl : S.length ≤ 1048576) (w : World) (l : List UInt8) (lg : Bool) (v : Vl) (hk : 3 ≤ v.k) (hno : leadO S v = none) (hB : Below w0.heap.size w0 w) (ht : Tl w0.heap.size bt (.slice p S.length c) l lg w) :
    Calls Tryz.prog 177 #[.pointer (some ⟨bt, 0, none⟩), .agg #[.int .u8 v.k, .int .i64 v.n], .int .i64 d] w fun e w' => TPuts w0.heap.size bt (.slice p S.length c) l lg (txtW S R v) w e w' := by
  have hA := below1 w (.cells #[.int .u8 v.k, .int .i64 v.n] 27)
  have hbx := heap_alloc_new w (.cells #[.int .u8 v.k, .int .i64 v.n] 27)
  have htA := ht.below hA
  have hsz := hB.size
  have hBA := hB.trans (hA.mono hsz)
  have hPA : PStep w0.heap.size bt w (w.alloc (.cells #[.int .u8 v.k, .int .i64 v.n] 27)) := PStep.of_below hA hsz
  have hszA := hA.size
  obtain ⟨vb, hblk, hown⟩ := htA.all
  obtain ⟨⟨t0, t1, t2⟩, -⟩ := cell_row3' hblk
  obtain ⟨x0, x1⟩ := cell_rowV hbx
  have HLd := fun (W : World) (h : Below w0.heap.size w0 W) => rLeads_in c (hs.below h) hl v
  generalize hWA : w.alloc (.cells #[.int .u8 v.k, .int .i64 v.n] 27) = WA at *
  have HF : ∀ (W : World), Below WA.heap.size WA W → W.cell? ⟨bt, 0, none⟩ = some (.slice p S.length c) ∧ W.cell? ⟨w.heap.size, 0, none⟩ = some (.int .u8 v.k) ∧ W.cell? ⟨w.heap.size, 1, none⟩ = some (.int .i64 v.n) := fun W h =>
    ⟨(h.cell (p := ⟨bt, 0, none⟩) (Array.getElem?_eq_some_iff.1 hblk).1).trans t0, (h.cell (p := ⟨w.heap.size, 0, none⟩) (Array.getElem?_eq_some_iff.1 hbx).1).trans x0, (h.cell (p := ⟨w.heap.size, 1, none⟩) (Array.getElem?_eq_some_iff.1 hbx).1).trans x1⟩
  have hBd := below_drew (Below.refl WA.heap.size WA)
  have hBAd : Below w0.heap.size w0 WA.drew := below_drew hBA
  have hli := leadI_none hno
  rw [hli] at HLd
  obtain ⟨x, hx⟩ : ∃ x, x = txtW S R v := ⟨_, rfl⟩
  have hx2 : x = [63] := by rw [hx]; unfold txtW; rw [if_neg (by omega), if_neg (by omega), if_neg (by omega), hno]
  rw [← hx]
  have HXX : Hid _ := hx2
  clear hx hx2 hown t1 t2
  go_enter Tryz.func177, Tryz.ntmps177
  go_wp2
  go_region_held3 (fun W => W.cell? ⟨bt, 0, none⟩ = some (.slice p S.length c) ∧ W.cell? ⟨w.heap.size, 0, none⟩ = some (.int .u8 v.k) ∧ W.cell? ⟨w.heap.size, 1, none⟩ = some (.int .i64 v.n))
    (first | with_reducible exact HF _ hBd | with_reducible exact HF _ hB2)
    (first | (go_at_call 245; (with_reducible refine (HLd _ hBAd).mono ?_); rintro e w2 ⟨hB2a, rfl⟩; have hB2 : Below WA.heap.size WA w2 := hBd.trans hB2a))
  all_goals
    obtain ⟨y0, y1, y2⟩ := HF w2 hB2
    have ht2 := htA.below hB2
    have hB2' : Below w0.heap.size w0 w2 := hBA.trans (hB2.mono hBA.size)
    have hP2 : PStep w0.heap.size bt w w2 := hPA.trans (PStep.of_below hB2 hBA.size)
    have hn2 := hB2'.size
    have q0 : ¬ (((v.k : Nat) : Int) = 0) := by omega
    have q1 : ¬ (((v.k : Nat) : Int) = 1) := by omega
    have q2 : ¬ (((v.k : Nat) : Int) = 2) := by omega
    have H := tput_in ht2 hn2 ⟨#[63]⟩ (by decide)
    go_wp2_with (first
      | (go_at_call 246; (with_reducible refine H.mono ?_); clear H; rintro e w3 hT; have hT' := hT; obtain ⟨rfl, -⟩ := hT'))
    go_end0
    rw [HXX.out]
    exact hT.after hP2

set_option maxRecDepth 20000 in
set_option maxHeartbeats 2000000 in
/-- Values whose objects are there. -/
theorem tval_some (hs : IsSt w0 p S) (hl : S.length ≤ 1048576) (hstr : ∀ o ∈ S, o.s.size ≤ 1048576) (hfit : ∀ o ∈ S, o.fits) (hd : -1000 ≤ d ∧ d ≤ 1000) (HR : d ≤ 8 → TRowC w0 bt c p S d R) (HR2 : 8 < d → R = fun _ => [46, 46]) (w : World) (l : List UInt8) (lg : Bool) (v : Vl) {o : Om} (hno : leadO S v = some o) (hB : Below w0.heap.size w0 w) (ht : Tl w0.heap.size bt (.slice p S.length c) l lg w) :
    Calls Tryz.prog 177 #[.pointer (some ⟨bt, 0, none⟩), .agg #[.int .u8 v.k, .int .i64 v.n], .int .i64 d] w fun e w' => TPuts w0.heap.size bt (.slice p S.length c) l lg (txtW S R v) w e w' := by
  obtain ⟨hk, hk7, hko, i, hvn, hiS, hSi⟩ := leadO_some hno
  have hoS := List.mem_of_getElem? hSi
  have hA := below1 w (.cells #[.int .u8 v.k, .int .i64 v.n] 27)
  have hbx := heap_alloc_new w (.cells #[.int .u8 v.k, .int .i64 v.n] 27)
  have htA := ht.below hA
  have hsz := hB.size
  have hBA := hB.trans (hA.mono hsz)
  have hPA : PStep w0.heap.size bt w (w.alloc (.cells #[.int .u8 v.k, .int .i64 v.n] 27)) := PStep.of_below hA hsz
  have hszA := hA.size
  obtain ⟨vb, hblk, hown⟩ := htA.all
  obtain ⟨⟨t0, t1, t2⟩, -⟩ := cell_row3' hblk
  obtain ⟨x0, x1⟩ := cell_rowV hbx
  have HLd := fun (W : World) (h : Below w0.heap.size w0 W) => rLeads_in c (hs.below h) hl v
  generalize hWA : w.alloc (.cells #[.int .u8 v.k, .int .i64 v.n] 27) = WA at *
  have HF : ∀ (W : World), Below WA.heap.size WA W → W.cell? ⟨bt, 0, none⟩ = some (.slice p S.length c) ∧ W.cell? ⟨w.heap.size, 0, none⟩ = some (.int .u8 v.k) ∧ W.cell? ⟨w.heap.size, 1, none⟩ = some (.int .i64 v.n) := fun W h =>
    ⟨(h.cell (p := ⟨bt, 0, none⟩) (Array.getElem?_eq_some_iff.1 hblk).1).trans t0, (h.cell (p := ⟨w.heap.size, 0, none⟩) (Array.getElem?_eq_some_iff.1 hbx).1).trans x0, (h.cell (p := ⟨w.heap.size, 1, none⟩) (Array.getElem?_eq_some_iff.1 hbx).1).trans x1⟩
  have hBd := below_drew (Below.refl WA.heap.size WA)
  have hBAd : Below w0.heap.size w0 WA.drew := below_drew hBA
  have hli : leadI S v = (i : Int) := by rw [leadI_some hno]; omega
  rw [hli] at HLd
  have HK : Hid _ := And.intro hvn hko
  obtain ⟨x, hx⟩ : ∃ x, x = txtW S R v := ⟨_, rfl⟩
  have hx2 : x = if o.k = 3 then o.s.data.toList else if o.k = 4 ∨ o.k = 5 then R o else if o.k = 6 then [102, 110, 32] ++ Lib.itoa o.fn else [63] := by rw [hx]; unfold txtW; rw [if_neg (by omega), if_neg (by omega), if_neg (by omega), hno]
  rw [← hx]
  have HXX : Hid _ := hx2
  clear hx hx2 hown t1 t2 hvn hko hno hli
  go_enter Tryz.func177, Tryz.ntmps177
  go_wp2
  go_region_held3 (fun W => W.cell? ⟨bt, 0, none⟩ = some (.slice p S.length c) ∧ W.cell? ⟨w.heap.size, 0, none⟩ = some (.int .u8 v.k) ∧ W.cell? ⟨w.heap.size, 1, none⟩ = some (.int .i64 v.n))
    (first | with_reducible exact HF _ hBd | with_reducible exact HF _ hB2)
    (first | (go_at_call 245; (with_reducible refine (HLd _ hBAd).mono ?_); rintro e w2 ⟨hB2a, rfl⟩; have hB2 : Below WA.heap.size WA w2 := hBd.trans hB2a))
  all_goals
    obtain ⟨y0, y1, y2⟩ := HF w2 hB2
    have ht2 := htA.below hB2
    have hB2' : Below w0.heap.size w0 w2 := hBA.trans (hB2.mono hBA.size)
    have hP2 : PStep w0.heap.size bt w w2 := hPA.trans (PStep.of_below hB2 hBA.size)
    have hn2 := hB2'.size
    have q0 : ¬ (((v.k : Nat) : Int) = 0) := by omega
    have q1 : ¬ (((v.k : Nat) : Int) = 1) := by omega
    have q2 : ¬ (((v.k : Nat) : Int) = 2) := by omega
    have hi0 : ¬ ((i : Int) < 0) := by omega
    have hii : (i : Int) < (S.length : Int) := by omega
    by_cases h7 : v.k = 7
    · have q7 : ((v.k : Nat) : Int) = 7 := by omega
      have H := tput_in ht2 hn2 ⟨#[63]⟩ (by decide)
      go_wp2_with (first
        | (go_at_call 246; (with_reducible refine H.mono ?_); clear H; rintro e w3 hT; have hT' := hT; obtain ⟨rfl, -⟩ := hT'))
      go_end0
      have hko := HK.out.2
      rw [HXX.out, if_neg (by omega), if_neg (by omega), if_neg (by omega)]
      exact hT.after hP2
    · have q7 : ¬ (((v.k : Nat) : Int) = 7) := by omega
      obtain ⟨b0, off, hp, c0, c1, ⟨qo, co, c2, hvo, -⟩, c3, c4⟩ := hs.look hB2' hSi
      subst hp
      by_cases h3 : v.k = 3
      · have q3 : ((v.k : Nat) : Int) = 3 := by omega
        have H := tput_in ht2 hn2 o.s (by have := hstr o hoS; omega)
        go_wp2_with (first
          | (go_at_call 246; (with_reducible refine H.mono ?_); clear H; rintro e w3 hT; have hT' := hT; obtain ⟨rfl, -⟩ := hT'))
        go_end0
        have hko := HK.out.2
        rw [HXX.out, if_pos (by omega)]
        exact hT.after hP2
      · have q3 : ¬ (((v.k : Nat) : Int) = 3) := by omega
        by_cases h6 : v.k = 6
        · have q6 : ((v.k : Nat) : Int) = 6 := by omega
          have hfo := hfit o hoS
          have hil := Lib.itoa_length_le o.fn hfo.2.2.2.1 hfo.2.2.2.2
          have HD := rDigits_in o.fn hfo.2.2.2.1 hfo.2.2.2.2
          have hcat : (⟨#[102, 110, 32]⟩ : ByteArray) ++ (⟨(Lib.itoa o.fn).toArray⟩ : ByteArray) = ⟨([102, 110, 32] ++ Lib.itoa o.fn).toArray⟩ := by apply ByteArray.ext; simp
          have hz1 : ((⟨#[102, 110, 32]⟩ : ByteArray)).size = 3 := rfl
          have hz2 : (⟨(Lib.itoa o.fn).toArray⟩ : ByteArray).size = (Lib.itoa o.fn).length := by show (Lib.itoa o.fn).toArray.size = _; simp
          have hz3 : ¬ (9223372036854775807 < 3 + (Lib.itoa o.fn).length) := by omega
          have hsi : (⟨([102, 110, 32] ++ Lib.itoa o.fn).toArray⟩ : ByteArray).size ≤ 1099511627776 := by show ([102, 110, 32] ++ Lib.itoa o.fn).toArray.size ≤ _; simp; omega
          have hlist : (⟨([102, 110, 32] ++ Lib.itoa o.fn).toArray⟩ : ByteArray).data.toList = [102, 110, 32] ++ Lib.itoa o.fn := by simp
          generalize hbi : (⟨(Lib.itoa o.fn).toArray⟩ : ByteArray) = bi at *
          generalize hbj : (⟨([102, 110, 32] ++ Lib.itoa o.fn).toArray⟩ : ByteArray) = bj at *
          have H := fun (W : World) (hW : Below w2.heap.size w2 W) => tput_in (ht2.below hW) (Nat.le_trans hn2 hW.size) bj hsi
          rw [hlist] at H
          go_wp2_with (first
            | (go_at_call 247; (with_reducible refine (HD _).mono ?_); clear HD; rintro e w3 ⟨rfl, hB3⟩)
            | (go_at_call 246; (with_reducible refine (H _ hB3).mono ?_); clear H; rintro e w4 hT; have hT' := hT; obtain ⟨rfl, -⟩ := hT'))
          go_end0
          have hko := HK.out.2
          rw [HXX.out, if_neg (by omega), if_neg (by omega), if_pos (by omega)]
          exact (hT.after (PStep.of_below hB3 hn2)).after hP2
        · have q6 : ¬ (((v.k : Nat) : Int) = 6) := by omega
          by_cases hd8 : 8 < d
          · have H := tput_in ht2 hn2 ⟨#[46, 46]⟩ (by decide)
            go_wp2_with (first
              | (go_at_call 246; (with_reducible refine H.mono ?_); clear H; rintro e w3 hT; have hT' := hT; obtain ⟨rfl, -⟩ := hT'))
            go_end0
            have hko := HK.out.2
            rw [HXX.out, if_neg (by omega), if_pos (by omega), HR2 hd8]
            exact hT.after hP2
          · have H := HR (by omega) w2 l lg o qo co hoS (by have := HK.out.2; omega) hvo hB2' ht2
            unfold objV at H
            go_wp2_with (first
              | (go_at_call 248; (with_reducible refine H.mono ?_); clear H; rintro e w3 hT; have hT' := hT; obtain ⟨rfl, -⟩ := hT'))
            go_end0
            have hko := HK.out.2
            rw [HXX.out, if_neg (by omega), if_pos (by omega)]
            exact hT.after hP2

theorem tval_in (hs : IsSt w0 p S) (hl : S.length ≤ 1048576) (hstr : ∀ o ∈ S, o.s.size ≤ 1048576) (hfit : ∀ o ∈ S, o.fits) (hd : -1000 ≤ d ∧ d ≤ 1000) (HR : d ≤ 8 → TRowC w0 bt c p S d R) (HR2 : 8 < d → R = fun _ => [46, 46]) : TValC w0 bt c p S d (txtW S R) := by
  intro w l lg v hf hB ht
  by_cases hk : v.k < 3
  · exact tval_low hs hl w l lg v hk hf hB ht
  · cases hno : leadO S v with
    | none => exact tval_none hs hl w l lg v (by omega) hno hB ht
    | some o => exact tval_some hs hl hstr hfit hd HR HR2 w l lg v hno hB ht
end

end Go.Proofs.YtgokofomoachaaaGreatDoor
