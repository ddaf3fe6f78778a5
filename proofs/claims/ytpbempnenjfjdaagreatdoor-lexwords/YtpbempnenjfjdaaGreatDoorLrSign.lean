/- The document's signs. -/
import Derived.Test.YtpbempnenjfjdaaGreatDoorLrRun
import Derived.Test.YtpbempnenjfjdaaGreatDoorLrMath
namespace Go.Proofs.YtpbempnenjfjdaaGreatDoor
set_option linter.unusedVariables false
set_option linter.unusedSimpArgs false
open Go.RowKit

variable {w : World}

def isS (c : UInt8) : Bool := decide (c.toNat = 40 ∨ c.toNat = 41 ∨ c.toNat = 123 ∨ c.toNat = 125 ∨ c.toNat = 91 ∨ c.toNat = 93 ∨ c.toNat = 44 ∨ c.toNat = 59 ∨ c.toNat = 58 ∨ c.toNat = 61 ∨ c.toNat = 60 ∨ c.toNat = 43 ∨ c.toNat = 45 ∨ c.toNat = 42 ∨ c.toNat = 47 ∨ c.toNat = 37 ∨ c.toNat = 35 ∨ c.toNat = 36)

theorem isS_b (c : UInt8) : isS c = (((c.toNat : Nat) : Int) == 40 || ((c.toNat : Nat) : Int) == 41 || ((c.toNat : Nat) : Int) == 123 || ((c.toNat : Nat) : Int) == 125 || ((c.toNat : Nat) : Int) == 91 || ((c.toNat : Nat) : Int) == 93 || ((c.toNat : Nat) : Int) == 44 || ((c.toNat : Nat) : Int) == 59 || ((c.toNat : Nat) : Int) == 58 || ((c.toNat : Nat) : Int) == 61 || ((c.toNat : Nat) : Int) == 60 || ((c.toNat : Nat) : Int) == 43 || ((c.toNat : Nat) : Int) == 45 || ((c.toNat : Nat) : Int) == 42 || ((c.toNat : Nat) : Int) == 47 || ((c.toNat : Nat) : Int) == 37 || ((c.toNat : Nat) : Int) == 35 || ((c.toNat : Nat) : Int) == 36) := by
  rw [Bool.eq_iff_iff]
  simp only [isS, decide_eq_true_eq, Bool.or_eq_true, beq_iff_eq]
  omega

def isE (c : UInt8) : Bool := decide (c.toNat = 61 ∨ c.toNat = 33 ∨ c.toNat = 60)

/-- The sign that a text begins with. -/
def sgP : List UInt8 → List UInt8
  | [] => []
  | c :: r => if r.head? = some 61 ∧ isE c = true then [c, 61] else if isS c = true then [c] else []

theorem uv {c : UInt8} {n : Nat} (h : n < 256) (e : c.toNat = n) : c = UInt8.ofNat n := (u8_eq h).2 e

theorem pre1 (v c : UInt8) (r : List UInt8) : List.isPrefixOf [v] (c :: r) = (v == c) := by simp [List.isPrefixOf]

theorem pre2 (v c : UInt8) (r : List UInt8) : List.isPrefixOf [v, 61] (c :: r) = (v == c && (r.head? == some 61)) := by
  cases r with
  | nil => simp [List.isPrefixOf]
  | cons d t =>
    simp only [List.isPrefixOf, List.head?_cons, Bool.and_true]
    congr 1
    by_cases h : d = 61
    · subst h; rfl
    · have h2 : ¬ (61 : UInt8) = d := fun e => h e.symm
      have g1 : ((61 : UInt8) == d) = false := beq_eq_false_iff_ne.2 h2
      have g2 : (d == (61 : UInt8)) = false := beq_eq_false_iff_ne.2 h
      show ((61 : UInt8) == d) = (d == (61 : UInt8))
      rw [g1, g2]

set_option maxRecDepth 20000 in
set_option maxHeartbeats 1000000 in
theorem sign_eq (c : UInt8) (r : List UInt8) : signAt (c :: r) = if sgP (c :: r) = [] then none else some (sgP (c :: r), (c :: r).drop (sgP (c :: r)).length) := by
  have hF : sigs.find? (fun p => p.isPrefixOf (c :: r)) = if r.head? = some 61 ∧ isE c = true then some [c, 61] else if isS c = true then some [c] else none := by
    unfold sigs
    simp only [List.find?, pre1, pre2]
    have hz : ∀ n : Nat, n < 256 → ((UInt8.ofNat n == c) = decide (c.toNat = n)) := fun n h => by
      rw [Bool.eq_iff_iff]
      simp only [beq_iff_eq, decide_eq_true_eq]
      exact ⟨fun e => (u8_eq h).1 e.symm, fun e => ((u8_eq h).2 e).symm⟩
    have z33 : ((33 : UInt8) == c) = decide (c.toNat = 33) := hz 33 (by decide)
    have z35 : ((35 : UInt8) == c) = decide (c.toNat = 35) := hz 35 (by decide)
    have z36 : ((36 : UInt8) == c) = decide (c.toNat = 36) := hz 36 (by decide)
    have z37 : ((37 : UInt8) == c) = decide (c.toNat = 37) := hz 37 (by decide)
    have z40 : ((40 : UInt8) == c) = decide (c.toNat = 40) := hz 40 (by decide)
    have z41 : ((41 : UInt8) == c) = decide (c.toNat = 41) := hz 41 (by decide)
    have z42 : ((42 : UInt8) == c) = decide (c.toNat = 42) := hz 42 (by decide)
    have z43 : ((43 : UInt8) == c) = decide (c.toNat = 43) := hz 43 (by decide)
    have z44 : ((44 : UInt8) == c) = decide (c.toNat = 44) := hz 44 (by decide)
    have z45 : ((45 : UInt8) == c) = decide (c.toNat = 45) := hz 45 (by decide)
    have z47 : ((47 : UInt8) == c) = decide (c.toNat = 47) := hz 47 (by decide)
    have z58 : ((58 : UInt8) == c) = decide (c.toNat = 58) := hz 58 (by decide)
    have z59 : ((59 : UInt8) == c) = decide (c.toNat = 59) := hz 59 (by decide)
    have z60 : ((60 : UInt8) == c) = decide (c.toNat = 60) := hz 60 (by decide)
    have z61 : ((61 : UInt8) == c) = decide (c.toNat = 61) := hz 61 (by decide)
    have z91 : ((91 : UInt8) == c) = decide (c.toNat = 91) := hz 91 (by decide)
    have z93 : ((93 : UInt8) == c) = decide (c.toNat = 93) := hz 93 (by decide)
    have z123 : ((123 : UInt8) == c) = decide (c.toNat = 123) := hz 123 (by decide)
    have z125 : ((125 : UInt8) == c) = decide (c.toNat = 125) := hz 125 (by decide)
    rw [z33, z35, z36, z37, z40, z41, z42, z43, z44, z45, z47, z58, z59, z60, z61, z91, z93, z123, z125]
    clear hz z33 z35 z36 z37 z40 z41 z42 z43 z44 z45 z47 z58 z59 z60 z61 z91 z93 z123 z125
    have he : (r.head? == some 61) = decide (r.head? = some 61) := by
      rw [Bool.eq_iff_iff]; simp
    rw [he]
    unfold isE isS
    by_cases h40 : c.toNat = 40
    · have hc : c = 40 := uv (n := 40) (by decide) h40
      subst hc
      by_cases hr : r.head? = some 61
      · simp [hr]
      · simp [hr]
    by_cases h41 : c.toNat = 41
    · have hc : c = 41 := uv (n := 41) (by decide) h41
      subst hc
      by_cases hr : r.head? = some 61
      · simp [hr]
      · simp [hr]
    by_cases h123 : c.toNat = 123
    · have hc : c = 123 := uv (n := 123) (by decide) h123
      subst hc
      by_cases hr : r.head? = some 61
      · simp [hr]
      · simp [hr]
    by_cases h125 : c.toNat = 125
    · have hc : c = 125 := uv (n := 125) (by decide) h125
      subst hc
      by_cases hr : r.head? = some 61
      · simp [hr]
      · simp [hr]
    by_cases h91 : c.toNat = 91
    · have hc : c = 91 := uv (n := 91) (by decide) h91
      subst hc
      by_cases hr : r.head? = some 61
      · simp [hr]
      · simp [hr]
    by_cases h93 : c.toNat = 93
    · have hc : c = 93 := uv (n := 93) (by decide) h93
      subst hc
      by_cases hr : r.head? = some 61
      · simp [hr]
      · simp [hr]
    by_cases h44 : c.toNat = 44
    · have hc : c = 44 := uv (n := 44) (by decide) h44
      subst hc
      by_cases hr : r.head? = some 61
      · simp [hr]
      · simp [hr]
    by_cases h59 : c.toNat = 59
    · have hc : c = 59 := uv (n := 59) (by decide) h59
      subst hc
      by_cases hr : r.head? = some 61
      · simp [hr]
      · simp [hr]
    by_cases h58 : c.toNat = 58
    · have hc : c = 58 := uv (n := 58) (by decide) h58
      subst hc
      by_cases hr : r.head? = some 61
      · simp [hr]
      · simp [hr]
    by_cases h61 : c.toNat = 61
    · have hc : c = 61 := uv (n := 61) (by decide) h61
      subst hc
      by_cases hr : r.head? = some 61
      · simp [hr]
      · simp [hr]
    by_cases h60 : c.toNat = 60
    · have hc : c = 60 := uv (n := 60) (by decide) h60
      subst hc
      by_cases hr : r.head? = some 61
      · simp [hr]
      · simp [hr]
    by_cases h43 : c.toNat = 43
    · have hc : c = 43 := uv (n := 43) (by decide) h43
      subst hc
      by_cases hr : r.head? = some 61
      · simp [hr]
      · simp [hr]
    by_cases h45 : c.toNat = 45
    · have hc : c = 45 := uv (n := 45) (by decide) h45
      subst hc
      by_cases hr : r.head? = some 61
      · simp [hr]
      · simp [hr]
    by_cases h42 : c.toNat = 42
    · have hc : c = 42 := uv (n := 42) (by decide) h42
      subst hc
      by_cases hr : r.head? = some 61
      · simp [hr]
      · simp [hr]
    by_cases h47 : c.toNat = 47
    · have hc : c = 47 := uv (n := 47) (by decide) h47
      subst hc
      by_cases hr : r.head? = some 61
      · simp [hr]
      · simp [hr]
    by_cases h37 : c.toNat = 37
    · have hc : c = 37 := uv (n := 37) (by decide) h37
      subst hc
      by_cases hr : r.head? = some 61
      · simp [hr]
      · simp [hr]
    by_cases h35 : c.toNat = 35
    · have hc : c = 35 := uv (n := 35) (by decide) h35
      subst hc
      by_cases hr : r.head? = some 61
      · simp [hr]
      · simp [hr]
    by_cases h36 : c.toNat = 36
    · have hc : c = 36 := uv (n := 36) (by decide) h36
      subst hc
      by_cases hr : r.head? = some 61
      · simp [hr]
      · simp [hr]
    by_cases h33 : c.toNat = 33
    · have hc : c = 33 := uv (n := 33) (by decide) h33
      subst hc
      by_cases hr : r.head? = some 61
      · simp [hr]
      · simp [hr]
    simp [h40, h41, h123, h125, h91, h93, h44, h59, h58, h61, h60, h43, h45, h42, h47, h37, h35, h36, h33]
  unfold signAt
  rw [hF]
  by_cases h1 : r.head? = some 61 ∧ isE c = true
  · have e : sgP (c :: r) = [c, 61] := if_pos h1
    rw [if_pos h1]
    simp [e]
  · rw [if_neg h1]
    by_cases h2 : isS c = true
    · have e : sgP (c :: r) = [c] := (if_neg h1).trans (if_pos h2)
      rw [if_pos h2]
      simp [e]
    · have e : sgP (c :: r) = [] := (if_neg h1).trans (if_neg h2)
      rw [if_neg h2]
      simp [e]

set_option maxRecDepth 20000 in
set_option maxHeartbeats 4000000 in
theorem rsign_in (l : List UInt8) (hl : l.length ≤ 65536) (a : Nat) (c : UInt8) (r : List UInt8) (hd : l.drop a = c :: r) (w : World) :
    Calls Tryz.prog 89 #[.string (bs l), .int .i64 a] w fun e w' => e = .returned (.string (bs (sgP (c :: r)))) ∧ w' = w := by
  have hlen : l.length = a + (r.length + 1) := by
    have := congrArg List.length hd
    simp at this
    omega
  have hca : l[a]? = some c := by
    have := congrArg List.head? hd
    simpa using this
  have hna : l[a + 1]? = r.head? := by
    have := congrArg (fun x => x[1]?) hd
    simp only [List.getElem?_drop] at this
    rw [this]
    cases r <;> simp
  obtain ⟨hj, hcj⟩ := bs_at hca
  have hsz : (bs l).size = a + (r.length + 1) := by rw [bs_size, hlen]
  have e1 : (bs l).extract a (a + 1) = bs [c] := by rw [bs_piece, hd]; simp
  have e2 : ∀ d, r.head? = some d → (bs l).extract a (a + 2) = bs [c, d] := fun d h => by
    rw [bs_piece, hd]
    cases r with
    | nil => simp at h
    | cons x t => simp at h; simp [h]
  have hb2 : ∀ d, r.head? = some d → ∃ hj : a + 1 < (bs l).size, (bs l)[a + 1]'hj = d := fun d h => bs_at (by rw [hna, h])
  have hc256 := c.toNat_lt
  obtain ⟨T, hT⟩ : ∃ T, T = sgP (c :: r) := ⟨_, rfl⟩
  rw [← hT]
  simp only [sgP] at hT
  have HT : Hid _ := hT
  clear hT hd hca hna
  generalize bs l = sv at *
  cases r with
  | nil =>
    clear e2 hb2
    simp only [List.length_nil, Nat.zero_add] at hsz
    have hT2 : T = if isS c = true then [c] else [] := by rw [HT.out]; simp
    have HT2 : Hid _ := hT2
    clear hT2 HT
    go_enter Tryz.func89, Tryz.ntmps89
    go_wp2
    all_goals
      (try simp only [Exit.inBlock, Exit.then])
      go_ret
      refine ⟨?_, rfl⟩
      rw [HT2.out]
      first
        | (rw [if_pos (by rw [isS_b]; simp only [*, Bool.true_or, Bool.or_true])]; rfl)
        | (rw [if_neg (by rw [isS_b]; simp only [*, Bool.false_eq_true, Bool.or_false, not_false_eq_true])]; rfl)
  | cons d t =>
    have hsd := hb2 d rfl
    obtain ⟨hjd, hcd⟩ := hsd
    have e3 := e2 d rfl
    clear e2 hb2
    have hd256 := d.toNat_lt
    simp only [List.length_cons] at hsz hlen
    have hq0 : (a : Int) + 1 < (a : Int) + ((t.length : Int) + 1 + 1) := by omega
    by_cases h61 : d.toNat = 61
    · have hd : d = 61 := uv (n := 61) (by decide) h61
      have hqd : ((d.toNat : Nat) : Int) = 61 := by omega
      by_cases hE : c.toNat = 61 ∨ c.toNat = 33 ∨ c.toNat = 60
      · have hT2 : T = [c, 61] := by
          rw [HT.out, if_pos ⟨by simp [hd], by unfold isE; apply decide_eq_true; exact hE⟩]
        have HT2 : Hid _ := And.intro hT2 hd
        clear hT2 HT e1 hd h61
        have hor : ((c.toNat : Nat) : Int) = 61 ∨ (¬ (((c.toNat : Nat) : Int) = 61) ∧ ((c.toNat : Nat) : Int) = 33) ∨ (¬ (((c.toNat : Nat) : Int) = 61) ∧ ¬ (((c.toNat : Nat) : Int) = 33) ∧ ((c.toNat : Nat) : Int) = 60) := by omega
        clear hE
        go_enter Tryz.func89, Tryz.ntmps89
        rcases hor with hq1 | ⟨hq1, hq2⟩ | ⟨hq1, hq2, hq3⟩
        all_goals
          go_wp2
          (try simp only [Exit.inBlock, Exit.then])
          go_ret
          refine ⟨?_, rfl⟩
          obtain ⟨x1, x2⟩ := HT2.out
          subst x2
          rw [x1]
          first | rfl | (rw [← e3]; rfl)
      · have hT2 : T = if isS c = true then [c] else [] := by
          rw [HT.out, if_neg (fun h => hE (by have := h.2; unfold isE at this; exact of_decide_eq_true this))]
        have HT2 : Hid _ := hT2
        clear hT2 HT e3 hd h61
        have hq1 : ¬ (((c.toNat : Nat) : Int) = 61) := by omega
        have hq2 : ¬ (((c.toNat : Nat) : Int) = 33) := by omega
        have hq3 : ¬ (((c.toNat : Nat) : Int) = 60) := by omega
        clear hE
        go_enter Tryz.func89, Tryz.ntmps89
        go_wp2
        all_goals
          (try simp only [Exit.inBlock, Exit.then])
          go_ret
          refine ⟨?_, rfl⟩
          rw [HT2.out]
          first
            | (rw [if_pos (by rw [isS_b]; simp only [*, Bool.true_or, Bool.or_true])]; rfl)
            | (rw [if_neg (by rw [isS_b]; simp only [*, Bool.false_eq_true, Bool.or_false, not_false_eq_true])]; rfl)
            | (exfalso; rename_i hh; simp [hq1, hq2, hq3] at hh; done)
            | (exfalso; simp [hq1, hq2, hq3] at *; done)
    · have hT2 : T = if isS c = true then [c] else [] := by
        rw [HT.out, if_neg (fun h => h61 (by have := h.1; simp at this; rw [this]; rfl))]
      have HT2 : Hid _ := hT2
      clear hT2 HT e3
      have hqd : ¬ (((d.toNat : Nat) : Int) = 61) := by omega
      clear h61
      go_enter Tryz.func89, Tryz.ntmps89
      go_wp2
      all_goals
        (try simp only [Exit.inBlock, Exit.then])
        go_ret
        refine ⟨?_, rfl⟩
        rw [HT2.out]
        first
          | (rw [if_pos (by rw [isS_b]; simp only [*, Bool.true_or, Bool.or_true])]; rfl)
          | (rw [if_neg (by rw [isS_b]; simp only [*, Bool.false_eq_true, Bool.or_false, not_false_eq_true])]; rfl)

end Go.Proofs.YtpbempnenjfjdaaGreatDoor
