/- What a text's bytes stand for. -/
import Derived.Test.YtpbempnenjfjdaaGreatDoorLxBuild
import Derived.Test.YtpbempnenjfjdaaGreatDoorLxIdle
import Derived.OwnWalk
namespace Go.Proofs.YtpbempnenjfjdaaGreatDoor
set_option linter.unusedVariables false
set_option linter.unusedSimpArgs false
open Go.RowKit

variable {w : World}

theorem indexByte_none {l : List UInt8} (h : (92 : UInt8) ∉ l) : Lib.indexByte l 92 = -1 := by
  induction l with
  | nil => rfl
  | cons c r ih =>
    simp only [List.mem_cons, not_or] at h
    simp [Lib.indexByte, Ne.symm h.1, ih h.2]

theorem indexByte_at {a b : List UInt8} (h : (92 : UInt8) ∉ a) : Lib.indexByte (a ++ 92 :: b) 92 = a.length := by
  induction a with
  | nil => simp [Lib.indexByte]
  | cons c r ih =>
    simp only [List.mem_cons, not_or] at h
    have := ih h.2
    simp only [List.cons_append, Lib.indexByte, this]
    have h1 : ¬ ((c == 92) = true) := by simp [Ne.symm h.1]
    have h2 : ¬ (((r.length : Int) == -1) = true) := by simp
    rw [if_neg h1, if_neg h2]
    try simp

theorem part92 (l : List UInt8) : (92 : UInt8) ∉ l ∨ ∃ a b, l = a ++ 92 :: b ∧ (92 : UInt8) ∉ a := by
  by_cases h : (92 : UInt8) ∈ l
  · right
    obtain ⟨a, b, e, hn⟩ := List.eq_append_cons_of_mem h
    exact ⟨a, b, e, hn⟩
  · exact .inl h

set_option maxHeartbeats 1000000 in
theorem cut_none {l : List UInt8} (h : (92 : UInt8) ∉ l) (w : World) : Calls Tryz.prog 142 #[.string (bs l), .string ⟨#[92]⟩] w fun e w' => e = .returned (.tuple #[.string (bs l), .string ⟨#[]⟩, .bool false]) ∧ w' = w := by
  have H := Tryz.stringslite_Index_one (bs l) 92
  rw [bs_list, indexByte_none h] at H
  clear h
  have H2 : ∀ w, Calls Tryz.prog 152 #[.string (bs l), .string ⟨#[92]⟩] w fun e w' => e = .returned (.tuple #[.string (bs l), .string ⟨#[]⟩, .bool false]) ∧ w' = w := fun w => by
    go_enter Tryz.func152, Tryz.ntmps152
    go_wp2_with (first
      | (go_at_call 158; (with_reducible refine (H _).mono ?_); rintro e w2 ⟨rfl, rfl⟩))
    refine bodyPost_ret (results_tmp3 (by rfl) _ _ _) (by rfl) ?_
    exact ⟨rfl, rfl⟩
  go_enter Tryz.func142, Tryz.ntmps142
  go_wp2_with (first
    | (go_at_call 152; (with_reducible refine (H2 _).mono ?_); rintro e w2 ⟨rfl, rfl⟩))
  refine bodyPost_ret (results_tmp3 (by rfl) _ _ _) (by rfl) ?_
  exact ⟨rfl, rfl⟩

set_option maxHeartbeats 1000000 in
theorem cut_at {a b : List UInt8} (h : (92 : UInt8) ∉ a) (hl : (a ++ 92 :: b).length ≤ 1048576) (w : World) : Calls Tryz.prog 142 #[.string (bs (a ++ 92 :: b)), .string ⟨#[92]⟩] w fun e w' => e = .returned (.tuple #[.string (bs a), .string (bs b), .bool true]) ∧ w' = w.drew := by
  have H := Tryz.stringslite_Index_one (bs (a ++ 92 :: b)) 92
  rw [bs_list, indexByte_at h] at H
  have e1 : (bs (a ++ 92 :: b)).extract 0 a.length = bs a := by rw [bs_upto]; simp
  have e2 : (bs (a ++ 92 :: b)).extract (a.length + 1) (a ++ 92 :: b).length = bs b := by rw [bs_from]; simp
  have hsz := bs_size (a ++ 92 :: b)
  have hlen : (a ++ 92 :: b).length = a.length + (b.length + 1) := by simp
  rw [hlen] at e2 hsz hl
  generalize bs (a ++ 92 :: b) = sv at *
  clear h hlen
  have hq1 : (a.length : Int) ≤ (a.length : Int) + ((b.length : Int) + 1) := by omega
  have hq2 : (a.length : Int) + 1 ≤ (a.length : Int) + ((b.length : Int) + 1) := by omega
  have H2 : ∀ w, Calls Tryz.prog 152 #[.string sv, .string ⟨#[92]⟩] w fun e w' => e = .returned (.tuple #[.string (bs a), .string (bs b), .bool true]) ∧ w' = w.drew := fun w => by
    go_enter Tryz.func152, Tryz.ntmps152
    go_wp2_with (first
      | (go_at_call 158; (with_reducible refine (H _).mono ?_); rintro e w2 ⟨rfl, rfl⟩))
    go_region
    all_goals
      go_wp2
      refine bodyPost_ret (results_tmp3 (by rfl) _ _ _) (by rfl) ?_
      exact ⟨by first | rfl | (simp [e1, e2]; done), rfl⟩
  go_enter Tryz.func142, Tryz.ntmps142
  go_wp2_with (first
    | (go_at_call 152; (with_reducible refine (H2 _).mono ?_); rintro e w2 ⟨rfl, rfl⟩))
  refine bodyPost_ret (results_tmp3 (by rfl) _ _ _) (by rfl) ?_
  exact ⟨rfl, rfl⟩

/-- How long a text is that a value is. -/
def strLen : Value → Nat
  | .string s => s.size
  | _ => 0

theorem IsBd.drew {n₀ bp : Nat} {l : List UInt8} (h : IsBd n₀ bp l w) : IsBd n₀ bp l w.drew := by
  obtain ⟨hb0, ad, vb, hb, ha, ho, hnil⟩ := h
  exact ⟨hb0, ad, vb, hb, ha, ho.drew, hnil⟩

set_option maxRecDepth 20000 in
set_option maxHeartbeats 1000000 in
theorem unescape_in (x : List UInt8) (hl : x.length ≤ 65536) (w : World) :
    Calls Tryz.prog 136 #[.string (bs x)] w fun e w' => ∃ (t : ByteArray) (ok : Bool), e = .returned (.tuple #[.string t, .bool ok]) ∧ Below w.heap.size w w' ∧ (ok = (unesc x).isSome) ∧ ∀ s, unesc x = some s → t = bs s := by
  have hbd : IsBd w.heap.size w.heap.size [] (w.alloc (.cells #[.pointer none, .slice none 0 0] 225)) :=
    ⟨Nat.le_refl _, _, _, heap_alloc_new w _, .inl rfl, World.ownsRow_nil _ _ _ _, fun _ => rfl⟩
  have hA := below1 w (.cells #[.pointer none, .slice none 0 0] 225)
  generalize hu : unesc x = U
  go_enter Tryz.func136, Tryz.ntmps136
  go_wp2
  generalize w.alloc (.cells #[.pointer none, .slice none 0 0] 225) = W0 at *
  go_loopw [0] (fun k wr => ∃ acc rest : List UInt8, k = .string (bs rest) ∧ IsBd w.heap.size w.heap.size acc wr ∧ U = (unesc rest).map (fun y => acc ++ y) ∧ acc.length + rest.length ≤ x.length ∧ Below w.heap.size w wr) (fun k _ => strLen k)
  case atStart => exact ⟨[], x, rfl, hbd, by rw [hu]; cases U <;> simp, by simp, hA⟩
  case round =>
    obtain ⟨acc, rest, rfl, hb, hU, hlen, hB⟩ := hrel
    have hsz := hB.size
    rcases part92 rest with hno | ⟨a, bh, rfl, hno⟩
    · -- there is no more of it
      have e1 : unesc rest = some rest := by
        have := unesc_app hno []
        simpa [unesc] using this
      rw [e1] at hU
      have H1 := cut_none hno
      have H2 := bdWrite_in hb hsz rest (by omega)
      have H3 := fun (W : World) (h : IsBd w.heap.size w.heap.size (acc ++ rest) W) (hn : w.heap.size ≤ W.heap.size) => bdString_in h hn (by simp; omega)
      have HH : Hid _ := And.intro hU hlen
      clear hU e1 hno hlen hu
      go_wp2_with (first
        | (go_at_call 142; (with_reducible refine (H1 _).mono ?_); rintro e w2 ⟨rfl, rfl⟩)
        | (go_at_call 143; (with_reducible refine H2.mono ?_); clear H2; rintro e w3 ⟨rfl, hb3, hB3⟩; have hs3 : w.heap.size ≤ w3.heap.size := Nat.le_trans hsz hB3.size)
        | (go_at_call 144; (with_reducible refine (H3 _ hb3 hs3).mono ?_); clear H3; rintro e w4 ⟨rfl, hB4⟩))
      (try simp only [Exit.inBlock, Exit.then])
      refine bodyPost_ret (results_tmp2 (by rfl) _ _ _) (by rfl) ?_
      refine ⟨bs (acc ++ rest), true, rfl, (hB.trans hB3).trans hB4, ?_, ?_⟩
      · rw [HH.out.1]; rfl
      · intro s hs
        rw [HH.out.1] at hs
        simp at hs
        rw [hs]
    · have hlen' : acc.length + (a.length + (bh.length + 1)) ≤ x.length := by simpa using hlen
      have H1 := cut_at (b := bh) hno (by have h0 := hlen'; simp only [List.length_append, List.length_cons]; omega) wr
      have H2 := bdWrite_in hb.drew (by exact hsz) a (by omega)
      have e0 : unesc (a ++ 92 :: bh) = (unesc (92 :: bh)).map (fun y => a ++ y) := unesc_app hno _
      rw [e0] at hU
      have hm0 : strLen (.string (bs (a ++ 92 :: bh))) = a.length + (bh.length + 1) := by show (bs _).size = _; rw [bs_size]; simp
      generalize bs (a ++ 92 :: bh) = sv at *
      have HH : Hid _ := And.intro hU (And.intro hlen' hm0)
      clear hU e0 hno hlen hu hlen' hm0
      cases bh with
      | nil =>
        have hnil : bs [] = ⟨#[]⟩ := rfl
        rw [hnil] at H1
        go_wp2_with (first
          | (go_at_call 142; (with_reducible refine H1.mono ?_); clear H1; rintro e w2 ⟨rfl, rfl⟩)
          | (go_at_call 143; (with_reducible refine H2.mono ?_); clear H2; rintro e w3 ⟨rfl, hb3, hB3⟩; have hs3 : w.heap.size ≤ w3.heap.size := Nat.le_trans hsz hB3.size))
        (try simp only [Exit.inBlock, Exit.then])
        refine bodyPost_ret (results_tmp2 (by rfl) _ _ _) (by rfl) ?_
        refine ⟨⟨#[]⟩, false, rfl, (below_drew hB).trans hB3, ?_, ?_⟩
        · rw [HH.out.1]; rfl
        · intro s hs
          rw [HH.out.1] at hs
          cases hs
      | cons d r =>
        have hbz' : (bs (d :: r)).size = r.length + 1 := by rw [bs_size]; simp
        have hg0 : (bs (d :: r))[0]'(by omega) = d := by
          have := bs_get (l := d :: r) (j := 0) (by omega)
          simpa using this.symm
        have hsl : (bs (d :: r)).extract 1 (r.length + 1) = bs r := by
          have := bs_from (d :: r) 1
          simpa using this
        have hie : (bs (d :: r)).toList.isEmpty = false := by rw [bs_toList]; rfl
        have hlr : r.length ≤ 65536 := by have := HH.out.2.1; simp at this; omega
        have HB : ∀ (W : World) (c : UInt8) (k : Int), (c.toNat : Int) = k → IsBd w.heap.size w.heap.size (acc ++ a) W → w.heap.size ≤ W.heap.size → Calls Tryz.prog 145 #[.pointer (some ⟨w.heap.size, 0, none⟩), .int .u8 k] W fun e w' => e = .returned .nilIface ∧ IsBd w.heap.size w.heap.size (acc ++ a ++ [c]) w' ∧ Below w.heap.size W w' :=
          fun W c k hk h1 h2 => by subst hk; exact bdByte_in h1 h2 c (by have := HH.out.2.1; simp; omega)
        by_cases h34 : d.toNat = 34
        · have HB1 := fun (W : World) => HB W 34 34 rfl
          have hun : unesc (92 :: d :: r) = (unesc r).map (fun y => 34 :: y) := by
            have h2 : d = 34 := eq34.2 h34
            subst h2
            rfl
          have hUU := HH.out.1
          rw [hun] at hUU
          have HH2 : Hid _ := And.intro hUU HH.out.2
          have hq34 : ((d.toNat : Nat) : Int) = 34 := by omega
          clear hun hUU HH HB h34
          go_wp2_with (first
            | (go_at_call 142; (with_reducible refine H1.mono ?_); clear H1; rintro e w2 ⟨rfl, rfl⟩)
            | (go_at_call 143; (with_reducible refine H2.mono ?_); clear H2; rintro e w3 ⟨rfl, hb3, hB3⟩; have hs3 : w.heap.size ≤ w3.heap.size := Nat.le_trans hsz hB3.size)
            | (go_at_call 145; (with_reducible refine (HB1 _ hb3 hs3).mono ?_); clear HB1; rintro e w4 ⟨rfl, hb4, hB4⟩))
          go_roundw
          case rel =>
            refine ⟨acc ++ a ++ [34], r, by first | rfl | rw [hsl], hb4, ?_, ?_, ((below_drew hB).trans hB3).trans hB4⟩
            · rw [HH2.out.1]; cases unesc r <;> simp
            · have := HH2.out.2.1; simp at this ⊢; omega
          case measure =>
            have h1 := HH2.out.2.2
            have h2 : strLen (.string (bs r)) = r.length := bs_size r
            first | (rw [h1, h2]; simp; omega) | (rw [hsl, h1, h2]; simp; omega) | (simp only [hsl]; rw [h1, h2]; simp; omega)
        · by_cases h92 : d.toNat = 92
          · have HB1 := fun (W : World) => HB W 92 92 rfl
            have hun : unesc (92 :: d :: r) = (unesc r).map (fun y => 92 :: y) := by
              have h2 : d = 92 := eq92.2 h92
              subst h2
              rfl
            have hUU := HH.out.1
            rw [hun] at hUU
            have HH2 : Hid _ := And.intro hUU HH.out.2
            have hq34 : ¬ (((d.toNat : Nat) : Int) = 34) := by omega
            have hq92 : ((d.toNat : Nat) : Int) = 92 := by omega
            clear hun hUU HH HB h92
            go_wp2_with (first
              | (go_at_call 142; (with_reducible refine H1.mono ?_); clear H1; rintro e w2 ⟨rfl, rfl⟩)
              | (go_at_call 143; (with_reducible refine H2.mono ?_); clear H2; rintro e w3 ⟨rfl, hb3, hB3⟩; have hs3 : w.heap.size ≤ w3.heap.size := Nat.le_trans hsz hB3.size)
              | (go_at_call 145; (with_reducible refine (HB1 _ hb3 hs3).mono ?_); clear HB1; rintro e w4 ⟨rfl, hb4, hB4⟩))
            go_roundw
            case rel =>
              refine ⟨acc ++ a ++ [92], r, by first | rfl | rw [hsl], hb4, ?_, ?_, ((below_drew hB).trans hB3).trans hB4⟩
              · rw [HH2.out.1]; cases unesc r <;> simp
              · have := HH2.out.2.1; simp at this ⊢; omega
            case measure =>
              have h1 := HH2.out.2.2
              have h2 : strLen (.string (bs r)) = r.length := bs_size r
              first | (rw [h1, h2]; simp; omega) | (rw [hsl, h1, h2]; simp; omega) | (simp only [hsl]; rw [h1, h2]; simp; omega)
          · by_cases h110 : d.toNat = 110
            · have HB1 := fun (W : World) => HB W 10 10 rfl
              have hun : unesc (92 :: d :: r) = (unesc r).map (fun y => 10 :: y) := by
                have h2 : d = 110 := eq110.2 h110
                subst h2
                rfl
              have hUU := HH.out.1
              rw [hun] at hUU
              have HH2 : Hid _ := And.intro hUU HH.out.2
              have hq34 : ¬ (((d.toNat : Nat) : Int) = 34) := by omega
              have hq92 : ¬ (((d.toNat : Nat) : Int) = 92) := by omega
              have hq110 : ((d.toNat : Nat) : Int) = 110 := by omega
              clear hun hUU HH HB h110
              go_wp2_with (first
                | (go_at_call 142; (with_reducible refine H1.mono ?_); clear H1; rintro e w2 ⟨rfl, rfl⟩)
                | (go_at_call 143; (with_reducible refine H2.mono ?_); clear H2; rintro e w3 ⟨rfl, hb3, hB3⟩; have hs3 : w.heap.size ≤ w3.heap.size := Nat.le_trans hsz hB3.size)
                | (go_at_call 145; (with_reducible refine (HB1 _ hb3 hs3).mono ?_); clear HB1; rintro e w4 ⟨rfl, hb4, hB4⟩))
              go_roundw
              case rel =>
                refine ⟨acc ++ a ++ [10], r, by first | rfl | rw [hsl], hb4, ?_, ?_, ((below_drew hB).trans hB3).trans hB4⟩
                · rw [HH2.out.1]; cases unesc r <;> simp
                · have := HH2.out.2.1; simp at this ⊢; omega
              case measure =>
                have h1 := HH2.out.2.2
                have h2 : strLen (.string (bs r)) = r.length := bs_size r
                first | (rw [h1, h2]; simp; omega) | (rw [hsl, h1, h2]; simp; omega) | (simp only [hsl]; rw [h1, h2]; simp; omega)
            · have hq : ¬ (((d.toNat : Nat) : Int) = 34) := by omega
              have hq2 : ¬ (((d.toNat : Nat) : Int) = 92) := by omega
              have hq3 : ¬ (((d.toNat : Nat) : Int) = 110) := by omega
              have hun : unesc (92 :: d :: r) = none := by
                have h1 : ¬ (d = 34 ∨ d = 92) := fun h => h.elim (fun h => h34 (eq34.1 h)) (fun h => h92 (eq92.1 h))
                have h2 : ¬ d = 110 := fun h => h110 (eq110.1 h)
                rw [unesc, if_pos rfl, if_neg h1, if_neg h2]
              have hUU := HH.out.1
              rw [hun] at hUU
              have HH2 : Hid _ := hUU
              clear h34 h92 hun hUU HH HB h110
              go_wp2_with (first
                | (go_at_call 142; (with_reducible refine H1.mono ?_); clear H1; rintro e w2 ⟨rfl, rfl⟩)
                | (go_at_call 143; (with_reducible refine H2.mono ?_); clear H2; rintro e w3 ⟨rfl, hb3, hB3⟩; have hs3 : w.heap.size ≤ w3.heap.size := Nat.le_trans hsz hB3.size))
              (try simp only [Exit.inBlock, Exit.then])
              refine bodyPost_ret (results_tmp2 (by rfl) _ _ _) (by rfl) ?_
              refine ⟨⟨#[]⟩, false, rfl, (below_drew hB).trans hB3, ?_, ?_⟩
              · rw [HH2.out]; rfl
              · intro s hs
                rw [HH2.out] at hs
                cases hs

end Go.Proofs.YtpbempnenjfjdaaGreatDoor
