/- prim.Bin. -/
import Derived.Test.YtgokofomoachaaaGreatDoorPbSign2
import Derived.Test.YtgokofomoachaaaGreatDoorPbSign3
import Derived.Test.YtgokofomoachaaaGreatDoorPoSame2
namespace Go.Proofs.YtgokofomoachaaaGreatDoor
set_option linter.unusedVariables false
set_option linter.unusedSimpArgs false
open Go.RowKit

variable {w : World}

/-- What two whole numbers come to, as a deed. -/
def intsDd (op : Nat) (a b : Int) : Dd :=
  if op = 1 then wholeD (wrap64 (a + b)) else if op = 2 then wholeD (wrap64 (a - b)) else if op = 3 then wholeD (wrap64 (a * b))
  else if op = 4 then (if b = 0 then thrD tZero else wholeD (wrap64 (Int.tdiv a b)))
  else if op = 5 then (if b = 0 then thrD tZero else wholeD (Int.tmod a b))
  else if op = 6 then truthD (decide (a < b)) else if op = 7 then truthD (decide (a ≤ b)) else thrD tKind

def binDd (op : Nat) (a b : Vl) (x y : Om) (r : Bool) : Dd :=
  if op = 8 then truthD r else if op = 9 then truthD (!r)
  else if a.k = 2 ∧ b.k = 2 then intsDd op a.n b.n
  else if a.k = 3 ∧ b.k = 3 then
    (if op = 1 then (if 4096 < (x.s ++ y.s).size then thrD tGreat else makesD (txtO (x.s ++ y.s)))
     else if op = 6 then truthD (Op.bytesLess x.s.toList y.s.toList) else if op = 7 then truthD (Op.bytesLess x.s.toList y.s.toList || x.s.toList == y.s.toList) else thrD tKind)
  else thrD tKind

theorem done_truth (S : List Om) (b : Bool) : DoneR S (truthD b) ⟨S, tru b, ⟨#[]⟩, 0⟩ := DoneR.old (d := truthD b) rfl rfl

theorem done_whole (S : List Om) (n : Int) : DoneR S (wholeD n) ⟨S, ⟨2, n⟩, ⟨#[]⟩, 0⟩ := DoneR.old (d := wholeD n) rfl rfl

theorem done_thr (S : List Om) (t : ByteArray) : DoneR S (thrD t) ⟨S, ⟨0, 0⟩, t, 0⟩ := DoneR.old (d := thrD t) rfl rfl

theorem ints_done (S : List Om) (op : Nat) (a b : Int) : DoneR S (intsDd op a b) ⟨S, (intsR op a b).v, (intsR op a b).t, (intsR op a b).n⟩ := by
  unfold intsDd intsR
  by_cases h1 : op = 1
  · simp only [if_pos h1]; exact done_whole S _
  simp only [if_neg h1]
  by_cases h2 : op = 2
  · simp only [if_pos h2]; exact done_whole S _
  simp only [if_neg h2]
  by_cases h3 : op = 3
  · simp only [if_pos h3]; exact done_whole S _
  simp only [if_neg h3]
  by_cases h4 : op = 4
  · simp only [if_pos h4]
    by_cases h0 : b = 0
    · simp only [if_pos h0]; exact done_thr S _
    · simp only [if_neg h0]; exact done_whole S _
  simp only [if_neg h4]
  by_cases h5 : op = 5
  · simp only [if_pos h5]
    by_cases h0 : b = 0
    · simp only [if_pos h0]; exact done_thr S _
    · simp only [if_neg h0]; exact done_whole S _
  simp only [if_neg h5]
  by_cases h6 : op = 6
  · simp only [if_pos h6]; exact done_truth S _
  simp only [if_neg h6]
  by_cases h7 : op = 7
  · simp only [if_pos h7]; exact done_truth S _
  simp only [if_neg h7]
  exact done_thr S _

theorem bin_done (S : List Om) (op : Nat) (a b : Vl) (x y : Om) (r : Bool) (hx : (x.s ++ y.s).size ≤ 1048576) : DoneR S (binDd op a b x y r) (binP S op a b x y r) := by
  unfold binDd binP
  by_cases h8 : op = 8
  · simp only [if_pos h8]; exact done_truth S _
  simp only [if_neg h8]
  by_cases h9 : op = 9
  · simp only [if_pos h9]; exact done_truth S _
  simp only [if_neg h9]
  by_cases h22 : a.k = 2 ∧ b.k = 2
  · simp only [if_pos h22]; exact ints_done S op a.n b.n
  simp only [if_neg h22]
  by_cases h33 : a.k = 3 ∧ b.k = 3
  · simp only [if_pos h33]
    by_cases h1 : op = 1
    · simp only [if_pos h1]
      by_cases hg : 4096 < (x.s ++ y.s).size
      · simp only [if_pos hg]; exact done_thr S _
      · simp only [if_neg hg]; exact DoneR.new (d := makesD (txtO (x.s ++ y.s))) (by simp [makesD, txtO]) rfl (by simp [makesD, txtO]) (by simp only [makesD, txtO]; omega)
    simp only [if_neg h1]
    by_cases h6 : op = 6
    · simp only [if_pos h6]; exact done_truth S _
    simp only [if_neg h6]
    by_cases h7 : op = 7
    · simp only [if_pos h7]; exact done_truth S _
    simp only [if_neg h7]
    exact done_thr S _
  simp only [if_neg h33]
  exact done_thr S _

theorem sInts_all {p : Option Addr} {n : Nat} (c : Nat) {g : Nat} (hs : Sgn w g) {op : Nat} (hop : op < 10) (h8 : op ≠ 8) (h9 : op ≠ 9) (a b : Int) {d : Dd} (hd : d = intsDd op a b) :
    Calls Tryz.prog 53 #[.slice (some ⟨g, 0, none⟩) 10 10, .slice p n c, .int .u8 op, .agg #[.int .u8 2, .int .i64 a], .agg #[.int .u8 2, .int .i64 b]] w (DeedR w d) := by
  unfold intsDd at hd
  by_cases h1 : op = 1
  · subst h1; simp only [if_true] at hd; exact sBin_Add c hs a b hd
  by_cases h2 : op = 2
  · subst h2; simp at hd; exact sBin_Sub c hs a b hd
  by_cases h3 : op = 3
  · subst h3; simp at hd; exact sBin_Mul c hs a b hd
  by_cases h4 : op = 4
  · subst h4; simp at hd; exact sBin_Div c hs a b hd
  by_cases h5 : op = 5
  · subst h5; simp at hd; exact sBin_Mod c hs a b hd
  by_cases h6 : op = 6
  · subst h6; simp at hd; exact sBin_Less c hs a b (by rw [hd])
  by_cases h7 : op = 7
  · subst h7; simp at hd; exact sBin_Most c hs a b (by rw [hd])
  have h0 : op = 0 := by omega
  subst h0
  simp at hd
  have := sBin_k0 (p := p) (n := n) c hs ⟨2, a⟩ ⟨2, b⟩ (by simp) (by simp) hd
  exact this

theorem sKind_all {p : Option Addr} {n : Nat} (c : Nat) {g : Nat} (hs : Sgn w g) {op : Nat} (hop : op < 10) (h8 : op ≠ 8) (h9 : op ≠ 9) (a b : Vl) (ha7 : a.k ≠ 7) (hb7 : b.k ≠ 7) (h22 : ¬ (a.k = 2 ∧ b.k = 2)) (h33 : ¬ (a.k = 3 ∧ b.k = 3) ∨ (op ≠ 1 ∧ op ≠ 6 ∧ op ≠ 7)) {d : Dd} (hd : d = thrD tKind) :
    Calls Tryz.prog 53 #[.slice (some ⟨g, 0, none⟩) 10 10, .slice p n c, .int .u8 op, .agg #[.int .u8 a.k, .int .i64 a.n], .agg #[.int .u8 b.k, .int .i64 b.n]] w (DeedR w d) := by
  by_cases h0 : op = 0
  · subst h0; exact sBin_k0 c hs a b ha7 hb7 hd
  by_cases h2 : op = 2
  · subst h2
    by_cases h2 : a.k = 2
    · exact sBin_k2b c hs a b ha7 hb7 h2 (fun e => h22 ⟨h2, e⟩) hd
    · exact sBin_k2a c hs a b ha7 hb7 h2 hd
  by_cases h3 : op = 3
  · subst h3
    by_cases h2 : a.k = 2
    · exact sBin_k3b c hs a b ha7 hb7 h2 (fun e => h22 ⟨h2, e⟩) hd
    · exact sBin_k3a c hs a b ha7 hb7 h2 hd
  by_cases h4 : op = 4
  · subst h4
    by_cases h2 : a.k = 2
    · exact sBin_k4b c hs a b ha7 hb7 h2 (fun e => h22 ⟨h2, e⟩) hd
    · exact sBin_k4a c hs a b ha7 hb7 h2 hd
  by_cases h5 : op = 5
  · subst h5
    by_cases h2 : a.k = 2
    · exact sBin_k5b c hs a b ha7 hb7 h2 (fun e => h22 ⟨h2, e⟩) hd
    · exact sBin_k5a c hs a b ha7 hb7 h2 hd
  by_cases h1 : op = 1
  · subst h1
    have h33' : ¬ (a.k = 3 ∧ b.k = 3) := h33.resolve_right (by omega)
    by_cases h2 : a.k = 2
    · exact sBin_k1b c hs a b ha7 hb7 h2 (fun e => h22 ⟨h2, e⟩) hd
    · by_cases h3 : a.k = 3
      · exact sBin_k1c c hs a b ha7 hb7 h3 (fun e => h33' ⟨h3, e⟩) hd
      · exact sBin_k1a c hs a b ha7 hb7 h2 h3 hd
  by_cases h6 : op = 6
  · subst h6
    have h33' : ¬ (a.k = 3 ∧ b.k = 3) := h33.resolve_right (by omega)
    by_cases h2 : a.k = 2
    · exact sBin_k6b c hs a b ha7 hb7 h2 (fun e => h22 ⟨h2, e⟩) hd
    · by_cases h3 : a.k = 3
      · exact sBin_k6c c hs a b ha7 hb7 h3 (fun e => h33' ⟨h3, e⟩) hd
      · exact sBin_k6a c hs a b ha7 hb7 h2 h3 hd
  by_cases h7 : op = 7
  · subst h7
    have h33' : ¬ (a.k = 3 ∧ b.k = 3) := h33.resolve_right (by omega)
    by_cases h2 : a.k = 2
    · exact sBin_k7b c hs a b ha7 hb7 h2 (fun e => h22 ⟨h2, e⟩) hd
    · by_cases h3 : a.k = 3
      · exact sBin_k7c c hs a b ha7 hb7 h3 (fun e => h33' ⟨h3, e⟩) hd
      · exact sBin_k7a c hs a b ha7 hb7 h2 h3 hd
  omega

theorem sAll {p : Option Addr} {S : List Om} (h : Ask w p S) (c : Nat) {g : Nat} (hs : Sgn w g) {op : Nat} (hop : op < 10) (a b : Vl) (hf : fineP S [a, b]) {x y : Om} {r : Bool} (hx : a.k = 3 → leadO S a = some x) (hy : b.k = 3 → leadO S b = some y) (hr : r = true ↔ essP S a = essP S b) (hm : ¬ (9223372036854775807 < x.s.size + y.s.size)) {d : Dd} (hd : d = binDd op a b x y r) :
    Calls Tryz.prog 53 #[.slice (some ⟨g, 0, none⟩) 10 10, .slice p S.length c, .int .u8 op, .agg #[.int .u8 a.k, .int .i64 a.n], .agg #[.int .u8 b.k, .int .i64 b.n]] w (DeedR w d) := by
  have ha7 : a.k ≠ 7 := (hf a (by simp)).1
  have hb7 : b.k ≠ 7 := (hf b (by simp)).1
  have na : a.k = 3 → leadO S a ≠ none := fun e => by rw [hx e]; simp
  have nb : b.k = 3 → leadO S b ≠ none := fun e => by rw [hy e]; simp
  unfold binDd at hd
  by_cases h8 : op = 8
  · rw [if_pos h8] at hd; subst h8; exact sBin_a8 h c hs a b ha7 hb7 na nb r hr hd
  rw [if_neg h8] at hd
  by_cases h9 : op = 9
  · rw [if_pos h9] at hd; subst h9; exact sBin_a9 h c hs a b ha7 hb7 na nb r hr hd
  rw [if_neg h9] at hd
  by_cases h22 : a.k = 2 ∧ b.k = 2
  · rw [if_pos h22] at hd
    obtain ⟨ak, an⟩ := a
    obtain ⟨bk, bn⟩ := b
    obtain ⟨e1, e2⟩ := h22
    simp only at e1 e2
    subst e1 e2
    exact sInts_all c hs hop h8 h9 an bn hd
  rw [if_neg h22] at hd
  by_cases h33 : a.k = 3 ∧ b.k = 3
  · rw [if_pos h33] at hd
    by_cases h1 : op = 1
    · rw [if_pos h1] at hd; subst h1
      by_cases hg : 4096 < (x.s ++ y.s).size
      · rw [if_pos hg] at hd; exact sBin_t1f h c hs a b ha7 hb7 h33.1 h33.2 (hx h33.1) (hy h33.2) hm hg hd
      · rw [if_neg hg] at hd; exact sBin_t1 h c hs a b ha7 hb7 h33.1 h33.2 (hx h33.1) (hy h33.2) hm hg hd
    rw [if_neg h1] at hd
    by_cases h6 : op = 6
    · rw [if_pos h6] at hd; subst h6; exact sBin_t6 h c hs a b ha7 hb7 h33.1 h33.2 (hx h33.1) (hy h33.2) hm hd
    rw [if_neg h6] at hd
    by_cases h7 : op = 7
    · rw [if_pos h7] at hd; subst h7; exact sBin_t7 h c hs a b ha7 hb7 h33.1 h33.2 (hx h33.1) (hy h33.2) hm hd
    rw [if_neg h7] at hd
    exact sKind_all c hs hop h8 h9 a b ha7 hb7 h22 (.inr ⟨h1, h6, h7⟩) hd
  rw [if_neg h33] at hd
  exact sKind_all c hs hop h8 h9 a b ha7 hb7 h22 (.inl h33) hd

theorem out_bin {S : List Om} {op : Nat} (h : 10 ≤ op) (a b : Vl) (x y : Om) (r : Bool) : binP S op a b x y r = refD S := by
  have e : intsR op a.n b.n = { t := tKind } := by
    unfold intsR
    rw [if_neg (by omega), if_neg (by omega), if_neg (by omega), if_neg (by omega), if_neg (by omega), if_neg (by omega), if_neg (by omega)]
  unfold binP
  rw [if_neg (by omega), if_neg (by omega), e]
  by_cases h22 : a.k = 2 ∧ b.k = 2
  · rw [if_pos h22]; rfl
  rw [if_neg h22]
  by_cases h33 : a.k = 3 ∧ b.k = 3
  · rw [if_pos h33, if_neg (by omega), if_neg (by omega), if_neg (by omega)]
  · rw [if_neg h33]

theorem txt_small {S : List Om} {l : List Vl} (hm : mayL S l) {v : Vl} (hv : v ∈ l) (h3 : v.k = 3) {x : Om} (hx : leadO S v = some x) : x.s.size ≤ 4096 := by
  obtain ⟨o', ho', hobj⟩ := may_obj hm hv (by omega)
  rw [hx] at ho'; cases ho'
  have := (hobj.1.1 (by have := (leadO_some hx).2.2.1; omega)).1
  omega

theorem BinP_in {p : Option Addr} {S : List Om} (h : Ask w p S) (c : Nat) (op : Nat) (h256 : op < 256) (a b : Vl) (D : Dv) (hD : BinR S op a b D) :
    Calls Tryz.prog 11 #[.slice p S.length c, .int .u8 op, .agg #[.int .u8 a.k, .int .i64 a.n], .agg #[.int .u8 b.k, .int .i64 b.n]] w (DidR w D.S D.v D.t D.n) := by
  refine pBin_in h c op a b ?_
  by_cases hm : mayL S [a, b]
  · refine .inr ⟨hm, ?_⟩
    rcases hD with ⟨hn, rfl⟩ | ⟨hf, x, y, r, hx, hy, hr, rfl⟩
    · have h7 : a.k = 7 ∨ b.k = 7 := by
        by_cases h1 : a.k = 7
        · exact .inl h1
        · by_cases h2 : b.k = 7
          · exact .inr h2
          · refine (hn ?_).elim
            intro z hz
            refine ⟨?_, hm z hz⟩
            simp at hz
            rcases hz with rfl | rfl
            · exact h1
            · exact h2
      refine ⟨thrD tKind, done_thr S tKind, fun W g hB hg => ?_⟩
      by_cases hop : op < 10
      · exact (sBin_cell c op a b hop h7 rfl).mono (fun _ _ hh => hh.V)
      · exact (sBin_out c op a b (by omega) h256 rfl).mono (fun _ _ hh => hh.V)
    · by_cases hop : op < 10
      · obtain ⟨x', y', hx', hy', hxs, hys, e⟩ : ∃ x' y' : Om, (a.k = 3 → leadO S a = some x') ∧ (b.k = 3 → leadO S b = some y') ∧ x'.s.size ≤ 4096 ∧ y'.s.size ≤ 4096 ∧ binP S op a b x y r = binP S op a b x' y' r := by
          by_cases h33 : a.k = 3 ∧ b.k = 3
          · exact ⟨x, y, hx, hy, txt_small hm (by simp) h33.1 (hx h33.1), txt_small hm (by simp) h33.2 (hy h33.2), rfl⟩
          · have hz : ∀ (v : Vl) (z : Om), v ∈ [a, b] → (v.k = 3 → leadO S v = some z) → ∃ z' : Om, (v.k = 3 → leadO S v = some z') ∧ z'.s.size ≤ 4096 := fun v z hv hz => by
              by_cases h3 : v.k = 3
              · exact ⟨z, hz, txt_small hm hv h3 (hz h3)⟩
              · exact ⟨⟨0, ⟨#[]⟩, [], 0, 0⟩, fun e => absurd e h3, by show (0 : Nat) ≤ 4096; omega⟩
            obtain ⟨x', h1, h2⟩ := hz a x (by simp) hx
            obtain ⟨y', h3, h4⟩ := hz b y (by simp) hy
            refine ⟨x', y', h1, h3, h2, h4, ?_⟩
            unfold binP
            simp only [if_neg h33]
        rw [e]
        refine ⟨binDd op a b x' y' r, bin_done S op a b x' y' r (by rw [ByteArray.size_append]; omega), fun W g hB hg => (sAll (h.below hB) c hg hop a b hf hx' hy' hr (by omega) rfl).mono (fun _ _ hh => hh.V)⟩
      · rw [out_bin (by omega)]
        exact ⟨thrD tKind, done_thr S tKind, fun W g hB hg => (sBin_out c op a b (by omega) h256 rfl).mono (fun _ _ hh => hh.V)⟩
  · refine .inl ⟨hm, ?_⟩
    rcases hD with ⟨hn, rfl⟩ | ⟨hf, -⟩
    · rfl
    · exact (hm (fine_may hf)).elim

theorem bin_ex (S : List Om) (op : Nat) (a b : Vl) : ∃ D, BinR S op a b D := by
  by_cases hf : fineP S [a, b]
  · have hm := fine_may hf
    have hz : ∀ v : Vl, v ∈ [a, b] → ∃ z' : Om, (v.k = 3 → leadO S v = some z') := fun v hv => by
      by_cases h3 : v.k = 3
      · obtain ⟨o, ho, -⟩ := may_obj hm hv (by omega)
        exact ⟨o, fun _ => ho⟩
      · exact ⟨⟨0, ⟨#[]⟩, [], 0, 0⟩, fun e => absurd e h3⟩
    obtain ⟨x, hx⟩ := hz a (by simp)
    obtain ⟨y, hy⟩ := hz b (by simp)
    obtain ⟨r, hr⟩ := b_of (essP S a = essP S b)
    exact ⟨_, .inr ⟨hf, x, y, r, hx, hy, hr, rfl⟩⟩
  · exact ⟨_, .inl ⟨hf, rfl⟩⟩


end Go.Proofs.YtgokofomoachaaaGreatDoor
