/- strings.IndexAny for the two signs that end a piece of a quoted text, at every string. -/
import Derived.Test.YtnekcomkochmjaaGreatDoorLpHead
import Derived.Laws.Runes
import Derived.Laws.RangeString
import Derived.Laws.RangeAny
import Derived.Deep.LoopGhost
import Derived.Lib.IndexAny
import Derived.Lib.OthersKept
import Derived.LoopTactic
import Derived.WalkMore
namespace Go.Proofs.YtnekcomkochmjaaGreatDoor
set_option linter.unusedVariables false
set_option linter.unusedSimpArgs false
open Go.RowKit

variable {w : World}

namespace Lp
open Lk

theorem two_size : (⟨#[34, 92]⟩ : ByteArray).size = 2 := rfl

theorem two_low {p : Nat} (h : p < (⟨#[34, 92]⟩ : ByteArray).size) : ((⟨#[34, 92]⟩ : ByteArray)[p]'h).toNat = 34 ∨ ((⟨#[34, 92]⟩ : ByteArray)[p]'h).toNat = 92 := by
  have h' : p < 2 := h
  match p, h' with
  | 0, _ => exact Or.inl rfl
  | 1, _ => exact Or.inr rfl

set_option maxRecDepth 100000 in
set_option maxHeartbeats 4000000 in
theorem rune_bad (w : World) : Calls Tryz.prog 112 #[.string ⟨#[34, 92]⟩, .int .i32 65533] w fun e w' => e = .returned (.int .i64 (-1)) ∧ Below w.heap.size w w' := by
  obtain ⟨S, hS⟩ : ∃ S : ByteArray, S = ⟨#[34, 92]⟩ := ⟨_, rfl⟩
  have hlow := fun p h => @two_low p h
  rw [← hS] at hlow ⊢
  clear hS
  go_enter Tryz.func112, Tryz.ntmps112
  go_wp2
  go_loopw [] (fun wr => ∃ pos : Nat, pos ≤ S.size ∧ wr.heap[w.heap.size]? = some (.stringIter S pos) ∧ Below w.heap.size w wr) (fun wr => S.size - wr.iterPos w.heap.size)
  case atStart =>
    refine ⟨0, by omega, ?_, (Below.refl _ w).alloc (Nat.le_refl _) _⟩
    exact World.iter_heap w S 0
  case round =>
    obtain ⟨pos, hp, hit, hB⟩ := hrel
    have hip := iterPos_of hit
    by_cases hps : pos < S.size
    · have hl := hlow pos hps
      have hnx : ∀ ty, (Instr.next (.pointer (some ⟨w.heap.size, 0, none⟩)) true ty).run Tryz.prog wr = _ := fun ty => Lib.run_next_ascii_at wr w.heap.size S pos ty hit hps (by omega)
      have hit2 := Lib.iterAt_heap wr w.heap.size S pos (pos + 1) hit
      have hB2 := Lib.below_iterAt hB (k := w.heap.size) (Nat.le_refl _) S (pos + 1)
      have hip2 := iterPos_of hit2
      have hne : ¬ (((S[pos]'hps).toNat : Int) = 65533) := by omega
      clear hl hlow
      go_wp2
      go_roundw
      case rel => exact ⟨pos + 1, by omega, hit2, hB2⟩
      case measure => rw [hip2, hip]; omega
    · have hnx : ∀ ty, (Instr.next (.pointer (some ⟨w.heap.size, 0, none⟩)) true ty).run Tryz.prog wr = _ := fun ty => Lib.run_next_end_at wr w.heap.size S pos ty hit hps
      clear hlow
      go_wp2
      go_ret
      exact ⟨rfl, hB⟩

theorem wp_veiled {P : Program} {c : Code} {Q : Exit → Act → World → Prop} {a : Act} {w : World} (h : ∀ QQ : Exit → Act → World → Prop, (∀ e a w, Q e a w → QQ e a w) → c.wp P QQ a w) : c.wp P Q a w :=
  h Q fun _ _ _ q => q

theorem wp_only {P : Program} {c : Code} {Q : Exit → Act → World → Prop} {a : Act} {w : World} (h : ∀ K : Act → World → Prop, (∀ a w, Q .normal a w → K a w) → c.wp P (Exit.then K fun _ _ _ => False) a w) : c.wp P Q a w := by
  refine wp_mono (h (Q .normal) fun _ _ q => q) fun e a w q => ?_
  cases e <;> first | exact q | exact (show False from q).elim

theorem two_bytes {E : ByteArray} (h : E.size = 2) (hb : ∀ (h : E.size - 1 < E.size), 128 ≤ (E[E.size - 1]'h).toNat) : ∃ c0 c1 : UInt8, E = ⟨#[c0, c1]⟩ ∧ 128 ≤ c1.toNat := by
  obtain ⟨⟨l⟩⟩ := E
  match l, h with
  | [c0, c1], _ => exact ⟨c0, c1, rfl, hb (by show 2 - 1 < 2; omega)⟩

theorem three_bytes {E : ByteArray} (h : E.size = 3) : ∃ c0 c1 c2 : UInt8, E = ⟨#[c0, c1, c2]⟩ := by
  obtain ⟨⟨l⟩⟩ := E
  match l, h with
  | [c0, c1, c2], _ => exact ⟨c0, c1, c2, rfl⟩

theorem four_bytes {E : ByteArray} (h : E.size = 4) : ∃ c0 c1 c2 c3 : UInt8, E = ⟨#[c0, c1, c2, c3]⟩ := by
  obtain ⟨⟨l⟩⟩ := E
  match l, h with
  | [c0, c1, c2, c3], _ => exact ⟨c0, c1, c2, c3, rfl⟩

set_option maxRecDepth 100000 in
set_option maxHeartbeats 4000000 in
/-- A rune that is no ASCII sign is not among the two. -/
theorem rune_far {r : Nat} (h : 128 ≤ r) (h2 : r ≤ 2147483647) :
    Calls Tryz.prog 112 #[.string ⟨#[34, 92]⟩, .int .i32 r] w fun e w' => e = .returned (.int .i64 (-1)) ∧ Below w.heap.size w w' := by
  have h0 : (0 : Int) ≤ (r : Int) := by omega
  have h1 : ¬ ((r : Int) < 128) := by omega
  by_cases hE : r = 65533
  · subst hE
    exact rune_bad w
  · have hE' : ((r : Int) == 65533) = false := by simp; omega
    have HV := fun (W : World) => Tryz.utf8_ValidRune (r : Int) W
    by_cases hv : Lib.validRune (r : Int) = true
    · have hv2 : Utf8.valid (r : Int) = true := by rw [validRune_eq]; exact hv
      obtain ⟨q1, q2, q3⟩ := encode_facts (r : Int) hv2 (by omega)
      obtain ⟨E, hEn⟩ : ∃ E, Utf8.encode (r : Int) = E := ⟨_, rfl⟩
      rw [hEn] at q1 q2 q3
      rw [hv] at HV
      have HE : Hid _ := hE
      clear hv hv2 hE
      by_cases hs : E.size = 2
      · have hE1 : 1 < E.size := by omega
        have hy : 128 ≤ (E[1]'hE1).toNat := by
          have := q3 (by omega)
          simpa [hs] using this
        obtain ⟨S, hS⟩ : ∃ S : ByteArray, S = ⟨#[34, 92]⟩ := ⟨_, rfl⟩
        have hss : S.size = 2 := by rw [hS]; rfl
        have hS1 : 1 < S.size := by omega
        have hx : (S[1]'hS1).toNat = 92 := by subst hS; rfl
        rw [← hS]
        have hne : ¬ (((S[1]'hS1).toNat : Int) = ((E[1]'hE1).toNat : Int)) := by omega
        have HNE : Hid ((((S[1]'hS1).toNat : Int) != ((E[1]'hE1).toNat : Int)) = true) := by
          show _ = true
          simpa using hne
        clear q1 q2 q3 hS hx hy hne
        go_enter Tryz.func112, Tryz.ntmps112
        go_wp2_with (first
          | (go_at_call 124; (with_reducible refine (HV _).mono ?_); rintro e w1 ⟨rfl, rfl⟩))
        go_step3
        go_wp2
        go_loopw [9] (fun i wr => i = .int .i64 1 ∧ wr = w1) (fun i wr => 0)
        case atStart => exact ⟨by simp [hs], rfl⟩
        case round =>
          obtain ⟨rfl, rfl⟩ := hrel
          go_wp2
          go_step3
          go_wp2
          refine wp_veiled fun QQ hQQ => ?_
          go_region
          rw [HNE.out]
          refine hQQ _ _ _ ?_
          clear hQQ
          clear QQ
          go_wp2
          refine wp_only fun QQ hQQ => ?_
          have hw2 : IntKind.i64.wrap 2 = 2 := by decide
          go_region_law (go_simp; go_at_call 60; (with_reducible refine (Tryz.strings_IndexByte _ _ _).mono ?_); rintro e w2 ⟨rfl, rfl⟩; (try dsimp only [Oper.upon]))
          all_goals
            refine hQQ _ _ ?_
            clear hQQ
            clear QQ
            rw [show ∀ c, Lib.indexByte [] c = -1 from fun _ => rfl]
            go_wp2
            rw [Exit.noGoto_ret]
            try go_wp2
            try rw [Exit.noGoto_ret]
            go_ret
            exact ⟨rfl, (Below.refl _ _).drew.drew⟩
      · rcases (show E.size = 3 ∨ E.size = 4 by omega) with hs | hs
        · obtain ⟨c0, c1, c2, rfl⟩ := three_bytes (E := E) (by omega)
          clear q1 q2 q3 hs
          go_enter Tryz.func112, Tryz.ntmps112
          go_wp2_with (first
            | (go_at_call 124; (with_reducible refine (HV _).mono ?_); rintro e w1 ⟨rfl, rfl⟩))
          go_step3
          go_wp2
          go_loopw [9] (fun i wr => i = .int .i64 2 ∧ wr = w1) (fun i wr => 0)
          case atStart => exact ⟨by simp, rfl⟩
          case round =>
            obtain ⟨rfl, rfl⟩ := hrel
            go_wp2
            rw [Exit.noGoto_ret]
            go_ret
            exact ⟨rfl, Below.refl _ _⟩
        · obtain ⟨c0, c1, c2, c3, rfl⟩ := four_bytes (E := E) (by omega)
          clear q1 q2 q3 hs
          go_enter Tryz.func112, Tryz.ntmps112
          go_wp2_with (first
            | (go_at_call 124; (with_reducible refine (HV _).mono ?_); rintro e w1 ⟨rfl, rfl⟩))
          go_step3
          go_wp2
          go_loopw [9] (fun i wr => i = .int .i64 3 ∧ wr = w1) (fun i wr => 0)
          case atStart => exact ⟨by simp, rfl⟩
          case round =>
            obtain ⟨rfl, rfl⟩ := hrel
            go_wp2
            rw [Exit.noGoto_ret]
            go_ret
            exact ⟨rfl, Below.refl _ _⟩
    · have hvf : Lib.validRune (r : Int) = false := by simpa using hv
      rw [hvf] at HV
      have HE : Hid _ := hE
      clear hv hvf hE
      go_enter Tryz.func112, Tryz.ntmps112
      go_wp2_with (first
        | (go_at_call 124; (with_reducible refine (HV _).mono ?_); rintro e w1 ⟨rfl, rfl⟩))
      go_ret
      exact ⟨rfl, Below.refl _ _⟩

set_option maxRecDepth 100000 in
set_option maxHeartbeats 4000000 in
/-- An ASCII sign, among the two or not. -/
theorem rune_low {c : UInt8} (h : c.toNat < 128) :
    Calls Tryz.prog 112 #[.string ⟨#[34, 92]⟩, .int .i32 c.toNat] w fun e w' => e = .returned (.int .i64 (Lib.indexByte [34, 92] c)) ∧ w' = w := by
  have HC := fun W : World => Tryz.strings_IndexByte ⟨#[34, 92]⟩ (c.toNat : Int) W
  have e : ((c.toNat : Int)).toNat.toUInt8 = c := by simp
  rw [e] at HC
  replace HC : ∀ W : World, Calls Tryz.prog 60 #[.string ⟨#[34, 92]⟩, .int .u8 (c.toNat : Int)] W fun e w' => e = .returned (.int .i64 (Lib.indexByte [34, 92] c)) ∧ w' = W := HC
  clear e
  generalize Lib.indexByte [34, 92] c = q at *
  generalize c.toNat = n at *
  have h0 : (0 : Int) ≤ (n : Int) := by omega
  have h1 : (n : Int) < 128 := by omega
  have h2 : ¬ (128 : Int) ≤ (n : Int) := by omega
  have hw : IntKind.u8.wrap (n : Int) = (n : Int) := by
    simp [IntKind.wrap, IntKind.bits, IntKind.signed]; omega
  go_enter Tryz.func112, Tryz.ntmps112
  go_wp2_with (first
    | (go_at_call 60; (with_reducible refine (HC _).mono ?_); rintro e w1 ⟨rfl, rfl⟩))
  go_ret
  exact ⟨rfl, rfl⟩

def Span (s : ByteArray) (pos k : Nat) : Prop := 1 ≤ k ∧ pos + k ≤ s.size ∧ ∀ j, j < k → 128 ≤ (s.get! (pos + j)).toNat

theorem decode_span (s : ByteArray) (pos : Nat) (h : pos < s.size) (ha : 128 ≤ (s[pos]'h).toNat) : Span s pos (Utf8.decode s pos).2 := by
  have h0 : 128 ≤ (s.get! (pos + 0)).toNat := by rw [get_at s pos h]; exact ha
  have hn : ¬ (s.get! (pos + 0)).toNat < 128 := by omega
  have one : Span s pos 1 := ⟨by omega, by omega, fun j hj => by
    rcases (show j = 0 by omega) with rfl
    exact h0⟩
  have two : pos + 1 < s.size → (s.get! (pos + 1)).toNat / 64 = 2 → Span s pos 2 := fun a b => ⟨by omega, by omega, fun j hj => by
    rcases (show j = 0 ∨ j = 1 by omega) with rfl | rfl
    · exact h0
    · omega⟩
  have three : pos + 1 < s.size → (s.get! (pos + 1)).toNat / 64 = 2 → pos + 2 < s.size → (s.get! (pos + 2)).toNat / 64 = 2 → Span s pos 3 := fun a b a2 b2 => ⟨by omega, by omega, fun j hj => by
    rcases (show j < 2 ∨ j = 2 by omega) with hj | rfl
    · exact (two a b).2.2 j hj
    · omega⟩
  have four : pos + 1 < s.size → (s.get! (pos + 1)).toNat / 64 = 2 → pos + 2 < s.size → (s.get! (pos + 2)).toNat / 64 = 2 → pos + 3 < s.size → (s.get! (pos + 3)).toNat / 64 = 2 → Span s pos 4 := fun a b a2 b2 a3 b3 => ⟨by omega, by omega, fun j hj => by
    rcases (show j < 3 ∨ j = 3 by omega) with hj | rfl
    · exact (three a b a2 b2).2.2 j hj
    · omega⟩
  simp only [Utf8.decode, hn, if_false]
  split
  · rename_i c
    simp only [Bool.and_eq_true, decide_eq_true_eq, beq_iff_eq] at c
    split
    · exact two c.2.1 c.2.2
    · exact one
  · split
    · rename_i c
      simp only [Bool.and_eq_true, decide_eq_true_eq, beq_iff_eq] at c
      split
      · exact three c.1.2.1 c.1.2.2 c.2.1 c.2.2
      · exact one
    · split
      · rename_i c
        simp only [Bool.and_eq_true, decide_eq_true_eq, beq_iff_eq] at c
        split
        · exact four c.1.1.2.1 c.1.1.2.2 c.1.2.1 c.1.2.2 c.2.1 c.2.2
        · exact one
      · exact one

theorem high_out {c : UInt8} (h : 128 ≤ c.toNat) : ([34, 92] : List UInt8).contains c = false := by
  have h1 : ¬ c = 34 := by rintro rfl; simp at h
  have h2 : ¬ c = 92 := by rintro rfl; simp at h
  simp [h1, h2]

theorem noAny_span {l : List UInt8} {pos k : Nat} (hk : Span (bs l) pos k) (h : Lib.NoAny l [34, 92] pos) : Lib.NoAny l [34, 92] (pos + k) := by
  intro j b hj hb
  by_cases h1 : j < pos
  · exact h j b h1 hb
  · have h2 := hk.2.2 (j - pos) (by omega)
    rw [show pos + (j - pos) = j by omega] at h2
    have hjs : j < (bs l).size := by have := hk.2.1; omega
    have h3 := bs_get hjs
    rw [hb] at h3
    have h4 : (bs l).get! j = (bs l)[j]'hjs := get_at (bs l) j hjs
    rw [h4, ← Option.some.inj h3] at h2
    exact high_out h2

set_option maxRecDepth 100000 in
set_option maxHeartbeats 4000000 in
theorem any_short (l : List UInt8) (h8 : l.length ≤ 8) (w : World) :
    Calls Tryz.prog 97 #[.string (bs l), .string ⟨#[34, 92]⟩] w fun e w' => e = .returned (.int .i64 (Lib.indexAny l [34, 92])) ∧ Below w.heap.size w w' := by
  have hsz := bs_size l
  have h9 : ¬ ((8 : Int) < (l.length : Int)) := by omega
  obtain ⟨R, hR⟩ : ∃ R, R = Lib.indexAny l [34, 92] := ⟨_, rfl⟩
  rw [← hR]
  have HRR : Hid (R = Lib.indexAny l [34, 92]) := hR
  clear hR
  go_enter Tryz.func97, Tryz.ntmps97
  go_wp2
  go_loopw [] (fun wr => ∃ pos : Nat, pos ≤ l.length ∧ wr.heap[w.heap.size]? = some (.stringIter (bs l) pos) ∧ Below w.heap.size w wr ∧ Lib.NoAny l [34, 92] pos) (fun wr => l.length - wr.iterPos w.heap.size)
  case atStart =>
    refine ⟨0, by omega, ?_, (Below.refl _ w).alloc (Nat.le_refl _) _, Lib.NoAny.zero _ _⟩
    exact World.iter_heap w (bs l) 0
  case round =>
    obtain ⟨pos, hp, hit, hB, hno⟩ := hrel
    have hip := iterPos_of hit
    have HNO : Hid (Lib.NoAny l [34, 92] pos) := hno
    by_cases hps : pos < (bs l).size
    · have hg := bs_get hps
      by_cases hlow : ((bs l)[pos]'hps).toNat < 128
      · have hnx : ∀ ty, (Instr.next (.pointer (some ⟨w.heap.size, 0, none⟩)) true ty).run Tryz.prog wr = _ := fun ty => Lib.run_next_ascii_at wr w.heap.size (bs l) pos ty hit hps hlow
        have hit2 := Lib.iterAt_heap wr w.heap.size (bs l) pos (pos + 1) hit
        have hB2 := Lib.below_iterAt hB (k := w.heap.size) (Nat.le_refl _) (bs l) (pos + 1)
        have hip2 := iterPos_of hit2
        have HR := fun W : World => rune_low (w := W) hlow
        have hcb := Lib.contains_iff_indexByte [34, 92] ((bs l)[pos]'hps)
        have HG : Hid _ := hg
        clear hno
        generalize Lib.indexByte [34, 92] ((bs l)[pos]'hps) = q at *
        by_cases hq : 0 ≤ q
        · rw [decide_eq_true hq] at hcb
          have hres := Lib.indexAny_hit HNO.out hg hcb
          have HRES : Hid (R = ((pos : Nat) : Int)) := HRR.out.trans hres
          have HX : Hid _ := hcb
          clear hcb hg hres hlow
          generalize (bs l)[pos]'hps = c at *
          go_wp2_with (first
            | (go_at_call 112; (with_reducible refine (HR _).mono ?_); rintro e w2 ⟨rfl, rfl⟩))
          go_ret
          exact ⟨by rw [HRES.out]; rfl, hB2⟩
        · rw [decide_eq_false hq] at hcb
          have hno2 := Lib.NoAny.succ HNO.out hg hcb
          have HN2 : Hid (Lib.NoAny l [34, 92] (pos + 1)) := hno2
          clear hcb hg hno2 hlow
          have hps' : pos + 1 ≤ l.length := by omega
          generalize (bs l)[pos]'hps = c at *
          go_wp2_with (first
            | (go_at_call 112; (with_reducible refine (HR _).mono ?_); rintro e w2 ⟨rfl, rfl⟩))
          go_roundw
          case rel => exact ⟨pos + 1, hps', hit2, hB2, HN2.out⟩
          case measure => rw [hip2, hip]; omega
      · have hhi : 128 ≤ ((bs l)[pos]'hps).toNat := by omega
        have hnx : ∀ ty, (Instr.next (.pointer (some ⟨w.heap.size, 0, none⟩)) true ty).run Tryz.prog wr = _ := fun ty => Lib.run_next_any_at wr w.heap.size (bs l) pos ty hit hps
        have hsp := decode_span (bs l) pos hps hhi
        obtain ⟨d1, d2⟩ := decode_high (bs l) pos hps hhi
        have d3 := decode_le (bs l) pos
        have hno2 := noAny_span hsp HNO.out
        have hle := hsp.2.1
        obtain ⟨r, hr⟩ : ∃ r, (Utf8.decode (bs l) pos).1 = r := ⟨_, rfl⟩
        obtain ⟨k, hk⟩ : ∃ k, (Utf8.decode (bs l) pos).2 = k := ⟨_, rfl⟩
        rw [hr] at d1 d3 hnx
        rw [hk] at d2 hno2 hle hnx
        have hit2 := Lib.iterAt_heap wr w.heap.size (bs l) pos (pos + k) hit
        have hB2 := Lib.below_iterAt hB (k := w.heap.size) (Nat.le_refl _) (bs l) (pos + k)
        have hip2 := iterPos_of hit2
        have hlt : w.heap.size < (wr.iterAt w.heap.size (bs l) (pos + k)).heap.size := (Array.getElem?_eq_some_iff.1 hit2).1
        have hsz2 : w.heap.size ≤ (wr.iterAt w.heap.size (bs l) (pos + k)).heap.size := by omega
        have HR := fun W : World => rune_far (w := W) d1 d3
        have HN2 : Hid (Lib.NoAny l [34, 92] (pos + k)) := hno2
        have hps' : pos + k ≤ l.length := by omega
        clear hno hno2 hsp hr hk hhi hlow hg hle
        go_wp2_with (first
          | (go_at_call 112; (with_reducible refine (HR _).mono ?_); rintro e w2 ⟨rfl, hB3⟩; have hit3 := (hB3.block _ hlt).trans hit2; have hip3 := iterPos_of hit3; have hB4 := hB2.trans (hB3.mono hsz2)))
        go_roundw
        case rel => exact ⟨pos + k, hps', hit3, hB4, HN2.out⟩
        case measure => rw [hip3, hip]; omega
    · have hnx : ∀ ty, (Instr.next (.pointer (some ⟨w.heap.size, 0, none⟩)) true ty).run Tryz.prog wr = _ := fun ty => Lib.run_next_end_at wr w.heap.size (bs l) pos ty hit hps
      have hpe : pos = l.length := by omega
      subst hpe
      have HRES : Hid (R = -1) := HRR.out.trans (Lib.indexAny_none HNO.out)
      clear hno
      go_wp2
      go_ret
      exact ⟨by rw [HRES.out]; rfl, hB⟩


theorem any_in : AnyC := by
  intro r W hr
  by_cases h8 : r.length ≤ 8
  · exact any_short r h8 W
  · have hs := bs_size r
    have H := Tryz.strings_IndexAny_long (fun _ => by kernel_rfl) (bs r) ⟨#[34, 92]⟩ W (by decide) (by omega) (by omega) (by decide) (by
      intro j b hj
      match j, hj with
      | 0, hj => cases hj; decide
      | 1, hj => cases hj; decide)
    rw [bs_list] at H
    refine H.mono ?_
    rintro e w1 ⟨rfl, rfl⟩
    exact ⟨rfl, ((Below.refl _ _).alloc (Nat.le_refl _) _).alloc (by simp) _⟩

end Lp

end Go.Proofs.YtnekcomkochmjaaGreatDoor
