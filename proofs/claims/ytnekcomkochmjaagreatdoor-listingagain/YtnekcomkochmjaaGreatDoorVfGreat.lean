/- How great programs are. -/
import Derived.Test.YtnekcomkochmjaaGreatDoorVfFn
namespace Go.Proofs.YtnekcomkochmjaaGreatDoor
set_option linter.unusedVariables false
set_option linter.unusedSimpArgs false
open Go.RowKit

variable {w : World}

/-- The size of constants, counted with an early end. -/
def sizeK : List Ck → Nat → Nat
  | [], n => n
  | c :: r, n => if n ≤ 1048576 then sizeK r (n + c.s.size) else n

theorem sizeK_ge : ∀ (l : List Ck) (n : Nat), n ≤ sizeK l n
  | [], n => Nat.le_refl _
  | c :: r, n => by
    unfold sizeK
    split
    · exact Nat.le_trans (Nat.le_add_right _ _) (sizeK_ge r _)
    · exact Nat.le_refl _

theorem sizeK_le : ∀ (l : List Ck) (n B : Nat), (∀ c ∈ l, c.s.size ≤ B) → sizeK l n ≤ max n (1048576 + B)
  | [], n, B, _ => Nat.le_max_left _ _
  | c :: r, n, B, h => by
    unfold sizeK
    split
    · have h1 := sizeK_le r (n + c.s.size) B (fun x hx => h x (by simp [hx]))
      have h2 := h c (by simp)
      omega
    · exact Nat.le_max_left _ _

def addIf (n m : Nat) : Nat := if n ≤ 1048576 then n + m else n

theorem addIf_small {n m : Nat} (h : addIf n m ≤ 1048576) : n ≤ 1048576 ∧ m ≤ 1048576 := by
  unfold addIf at h
  split at h <;> omega

theorem addIf_le (n m : Nat) : addIf n m ≤ n + m := by unfold addIf; split <;> omega

theorem addIf_yes {n m : Nat} (h : n ≤ 1048576) : addIf n m = n + m := by unfold addIf; rw [if_pos h]

theorem addIf_no {n m : Nat} (h : ¬ n ≤ 1048576) : addIf n m = n := by unfold addIf; rw [if_neg h]

/-- The size of a function. -/
def fnSizeP (f : Fm) : Nat := addIf (addIf (addIf (addIf (addIf (1 + f.name.size) f.caps.length) (sizeK f.consts f.consts.length)) f.code.length) f.lines.length) f.hs.length

theorem fnSizeP_small {f : Fm} (h : fnSizeP f ≤ 1048576) : Small f := by
  obtain ⟨h4, l4⟩ := addIf_small h
  obtain ⟨h3, l3⟩ := addIf_small h4
  obtain ⟨h2, l2⟩ := addIf_small h3
  obtain ⟨h1, l1⟩ := addIf_small h2
  obtain ⟨h0, l0⟩ := addIf_small h1
  exact ⟨l0, Nat.le_trans (sizeK_ge _ _) l1, l2, l3, l4⟩

/-- How great what came in can be. -/
structure CameF (f : Fm) : Prop where
  name : f.name.size ≤ 140737488355328
  caps : f.caps.length ≤ 140737488355328
  consts : f.consts.length ≤ 140737488355328
  texts : ∀ c ∈ f.consts, c.s.size ≤ 140737488355328
  code : f.code.length ≤ 140737488355328
  lines : f.lines.length ≤ 140737488355328
  hs : f.hs.length ≤ 140737488355328

theorem CameF.sizeK {f : Fm} (h : CameF f) : sizeK f.consts f.consts.length ≤ 140737488355328 + 1048576 := by
  have := sizeK_le f.consts f.consts.length 140737488355328 h.texts
  have := h.consts
  omega

theorem CameF.size {f : Fm} (h : CameF f) : fnSizeP f ≤ 1125899906842624 := by
  have h0 := h.name
  have h1 := h.caps
  have h2 := h.sizeK
  have h3 := h.code
  have h4 := h.lines
  have h5 := h.hs
  have e1 := addIf_le (1 + f.name.size) f.caps.length
  have e2 := addIf_le (addIf (1 + f.name.size) f.caps.length) (Go.Proofs.YtnekcomkochmjaaGreatDoor.sizeK f.consts f.consts.length)
  have e3 := addIf_le (addIf (addIf (1 + f.name.size) f.caps.length) (Go.Proofs.YtnekcomkochmjaaGreatDoor.sizeK f.consts f.consts.length)) f.code.length
  have e4 := addIf_le (addIf (addIf (addIf (1 + f.name.size) f.caps.length) (Go.Proofs.YtnekcomkochmjaaGreatDoor.sizeK f.consts f.consts.length)) f.code.length) f.lines.length
  have e5 := addIf_le (addIf (addIf (addIf (addIf (1 + f.name.size) f.caps.length) (Go.Proofs.YtnekcomkochmjaaGreatDoor.sizeK f.consts f.consts.length)) f.code.length) f.lines.length) f.hs.length
  unfold fnSizeP
  omega

def sizeF : List Fm → Nat → Nat
  | [], n => n
  | f :: r, n => if n ≤ 1048576 then sizeF r (n + fnSizeP f) else n

theorem sizeF_ge : ∀ (l : List Fm) (n : Nat), n ≤ sizeF l n
  | [], n => Nat.le_refl _
  | c :: r, n => by
    unfold sizeF
    split
    · exact Nat.le_trans (Nat.le_add_right _ _) (sizeF_ge r _)
    · exact Nat.le_refl _

theorem sizeF_le : ∀ (l : List Fm) (n : Nat), (∀ f ∈ l, CameF f) → sizeF l n ≤ max n (1048576 + 1125899906842624)
  | [], n, _ => Nat.le_max_left _ _
  | f :: r, n, h => by
    unfold sizeF
    split
    · have h1 := sizeF_le r (n + fnSizeP f) (fun x hx => h x (by simp [hx]))
      have h2 := (h f (by simp)).size
      omega
    · exact Nat.le_max_left _ _

theorem sizeF_small : ∀ {l : List Fm} {n : Nat}, sizeF l n ≤ 1048576 → ∀ f ∈ l, Small f
  | [], n, _ => by simp
  | f :: r, n, h => by
    unfold sizeF at h
    split at h
    · intro x hx
      rcases List.mem_cons.1 hx with rfl | hx
      · have := sizeF_ge r (n + fnSizeP x)
        exact fnSizeP_small (by omega)
      · exact sizeF_small h x hx
    · omega

theorem sizeK_stop {l : List Ck} {n : Nat} (h : ¬ n ≤ 1048576) : sizeK l n = n := by cases l <;> simp [sizeK, h]

theorem sizeF_stop {l : List Fm} {n : Nat} (h : ¬ n ≤ 1048576) : sizeF l n = n := by cases l <;> simp [sizeF, h]

set_option maxRecDepth 20000 in
set_option maxHeartbeats 2000000 in
theorem constsSize_in {p : Option Addr} {l : List Ck} (c : Nat) (hv : RowAt conC 3 w p l) (hlen : l.length ≤ 140737488355328) (hb : ∀ c ∈ l, c.s.size ≤ 140737488355328) :
    Calls Tryz.prog 78 #[.slice p l.length c] w fun e w' => e = .returned (.int .i64 (sizeK l l.length : Nat)) ∧ Below w.heap.size w w' := by
  go_enter Tryz.func78, Tryz.ntmps78
  go_wp2
  go_loopw [3, 4] (fun t k wr => ∃ (pre rest : List Ck) (N : Nat), k = .int .i64 pre.length ∧ t = .int .i64 N ∧ l = pre ++ rest ∧ sizeK l l.length = sizeK rest N ∧ N ≤ 140737488355328 + 1048576 ∧ Below w.heap.size w wr) (fun _ k _ => l.length - (intOf k).toNat)
  case atStart => exact ⟨[], l, l.length, rfl, rfl, rfl, rfl, by omega, Below.refl _ _⟩
  case round =>
    obtain ⟨pre, rest, N, rfl, rfl, hR, hN, hNb, hB⟩ := hrel
    have HN : Hid _ := hN
    cases rest with
    | nil =>
      have hR' : l = pre := by simpa using hR
      have hq : ¬ ((pre.length : Int) < (l.length : Int)) := by rw [hR']; omega
      clear hR hR' hN
      go_wp2
      go_ret
      exact ⟨by rw [HN.out]; rfl, hB⟩
    | cons x rest =>
      have hlR : pre.length < l.length := by rw [hR]; simp
      have hlR' : (pre.length : Int) < (l.length : Int) := by omega
      by_cases hm : N ≤ 1048576
      · have hm' : (N : Int) ≤ 1048576 := by omega
        have hxb := hb x (by rw [hR]; simp)
        obtain ⟨b0, off, rfl, c0, c1, c2⟩ := hv.lookK hB (j := pre.length) (x := x) (by rw [hR]; simp)
        have HR : Hid _ := And.intro hR hN
        have e1 : (((pre ++ [x]).length : Nat) : Int) = pre.length + 1 := by simp
        clear hR hN
        go_wp2
        go_roundw
        case rel =>
          refine ⟨pre ++ [x], rest, N + x.s.size, by rw [e1], by simp, by have := HR.out.1; simpa using this, ?_, by omega, hB⟩
          rw [HR.out.2]; simp [sizeK, hm]
        case measure => simp [intOf]; omega
      · have hm' : ¬ ((N : Int) ≤ 1048576) := by omega
        clear hR hN
        go_wp2
        go_ret
        exact ⟨by rw [HN.out, sizeK_stop hm]; rfl, hB⟩

theorem capsSize_in (p : Option Addr) (n c : Nat) (w : World) : Calls Tryz.prog 77 #[.slice p n c] w fun e w' => e = .returned (.int .i64 n) ∧ w' = w := by
  go_enter Tryz.func77, Tryz.ntmps77
  go_wp2
  go_ret
  exact ⟨rfl, rfl⟩

theorem insesSize_in (p : Option Addr) (n c : Nat) (w : World) : Calls Tryz.prog 79 #[.slice p n c] w fun e w' => e = .returned (.int .i64 n) ∧ w' = w := by
  go_enter Tryz.func79, Tryz.ntmps79
  go_wp2
  go_ret
  exact ⟨rfl, rfl⟩

theorem intsSize_in (p : Option Addr) (n c : Nat) (w : World) : Calls Tryz.prog 80 #[.slice p n c] w fun e w' => e = .returned (.int .i64 n) ∧ w' = w := by
  go_enter Tryz.func80, Tryz.ntmps80
  go_wp2
  go_ret
  exact ⟨rfl, rfl⟩

theorem handlersSize_in (p : Option Addr) (n c : Nat) (w : World) : Calls Tryz.prog 81 #[.slice p n c] w fun e w' => e = .returned (.int .i64 n) ∧ w' = w := by
  go_enter Tryz.func81, Tryz.ntmps81
  go_wp2
  go_ret
  exact ⟨rfl, rfl⟩

set_option maxRecDepth 20000 in
set_option maxHeartbeats 4000000 in
theorem fnSize_in (f : Fm) (s : Fs) (hv : FnAt w f s) (hc : CameF f) :
    Calls Tryz.prog 37 #[fnA f s] w fun e w' => e = .returned (.int .i64 (fnSizeP f : Nat)) ∧ Below w.heap.size w w' := by
  unfold fnA
  have hB1 := below1 w (.cells #[.string f.name, .int .i64 f.params, .int .i64 f.locals, .slice s.qc f.caps.length s.cc, .slice s.qk f.consts.length s.ck, .slice s.qi f.code.length s.ci, .slice s.ql f.lines.length s.cl, .slice s.qh f.hs.length s.ch] 45)
  have hb0 := heap_alloc_new w (.cells #[.string f.name, .int .i64 f.params, .int .i64 f.locals, .slice s.qc f.caps.length s.cc, .slice s.qk f.consts.length s.ck, .slice s.qi f.code.length s.ci, .slice s.ql f.lines.length s.cl, .slice s.qh f.hs.length s.ch] 45)
  obtain ⟨⟨o0, o1, o2, o3, o4, o5, o6, o7⟩, -⟩ := cell_row8 hb0
  have HK := fun (W : World) (h : Below w.heap.size w W) => constsSize_in s.ck (hv.consts.below h) hc.consts hc.texts
  have hk := hc.sizeK
  have i0 := hc.name
  have i1 := hc.caps
  have i3 := hc.code
  have i4 := hc.lines
  have i5 := hc.hs
  obtain ⟨K, hK⟩ : ∃ K, sizeK f.consts f.consts.length = K := ⟨_, rfl⟩
  rw [hK] at HK hk
  clear hv hc
  by_cases h0 : 1 + f.name.size ≤ 1048576
  · by_cases h1 : 1 + f.name.size + f.caps.length ≤ 1048576
    · by_cases h2 : 1 + f.name.size + f.caps.length + K ≤ 1048576
      · by_cases h3 : 1 + f.name.size + f.caps.length + K + f.code.length ≤ 1048576
        · by_cases h4 : 1 + f.name.size + f.caps.length + K + f.code.length + f.lines.length ≤ 1048576
          · have eF : (fnSizeP f : Int) = 1 + (f.name.size : Int) + (f.caps.length : Int) + (K : Int) + (f.code.length : Int) + (f.lines.length : Int) + (f.hs.length : Int) := by
              unfold fnSizeP
              rw [hK]
              rw [addIf_yes h0, addIf_yes h1, addIf_yes h2, addIf_yes h3, addIf_yes h4]
              omega
            rw [eF]
            have b0 : (1 + (f.name.size : Int) ≤ 1048576) := by omega
            have b1 : (1 + (f.name.size : Int) + (f.caps.length : Int) ≤ 1048576) := by omega
            have b2 : (1 + (f.name.size : Int) + (f.caps.length : Int) + (K : Int) ≤ 1048576) := by omega
            have b3 : (1 + (f.name.size : Int) + (f.caps.length : Int) + (K : Int) + (f.code.length : Int) ≤ 1048576) := by omega
            have b4 : (1 + (f.name.size : Int) + (f.caps.length : Int) + (K : Int) + (f.code.length : Int) + (f.lines.length : Int) ≤ 1048576) := by omega
            clear eF hK h0 h1 h2 h3 h4
            go_enter Tryz.func37, Tryz.ntmps37
            go_wp2_with (first
              | (go_at_call 77; refine (capsSize_in _ _ _ _).mono ?_; rintro e w' ⟨rfl, hw'⟩; obtain rfl := hw'.symm)
              | (go_at_call 78; (with_reducible refine (HK _ hB1).mono ?_); rintro e w2 ⟨rfl, hB2⟩; have m2 := (hB2.block w.heap.size (by simp)).trans hb0; obtain ⟨⟨p0, p1, p2, p3, p4, p5, p6, p7⟩, -⟩ := cell_row8 m2; have k2 := hB1.trans (hB2.mono hB1.size))
              | (go_at_call 79; refine (insesSize_in _ _ _ _).mono ?_; rintro e w' ⟨rfl, hw'⟩; obtain rfl := hw'.symm)
              | (go_at_call 80; refine (intsSize_in _ _ _ _).mono ?_; rintro e w' ⟨rfl, hw'⟩; obtain rfl := hw'.symm)
              | (go_at_call 81; refine (handlersSize_in _ _ _ _).mono ?_; rintro e w' ⟨rfl, hw'⟩; obtain rfl := hw'.symm))
            go_ret
            exact ⟨rfl, k2⟩
          · have eF : (fnSizeP f : Int) = 1 + (f.name.size : Int) + (f.caps.length : Int) + (K : Int) + (f.code.length : Int) + (f.lines.length : Int) := by
              unfold fnSizeP
              rw [hK]
              rw [addIf_yes h0, addIf_yes h1, addIf_yes h2, addIf_yes h3, addIf_no h4]
              omega
            rw [eF]
            have b0 : (1 + (f.name.size : Int) ≤ 1048576) := by omega
            have b1 : (1 + (f.name.size : Int) + (f.caps.length : Int) ≤ 1048576) := by omega
            have b2 : (1 + (f.name.size : Int) + (f.caps.length : Int) + (K : Int) ≤ 1048576) := by omega
            have b3 : (1 + (f.name.size : Int) + (f.caps.length : Int) + (K : Int) + (f.code.length : Int) ≤ 1048576) := by omega
            have b4 : ¬ (1 + (f.name.size : Int) + (f.caps.length : Int) + (K : Int) + (f.code.length : Int) + (f.lines.length : Int) ≤ 1048576) := by omega
            clear eF hK h0 h1 h2 h3 h4
            go_enter Tryz.func37, Tryz.ntmps37
            go_wp2_with (first
              | (go_at_call 77; refine (capsSize_in _ _ _ _).mono ?_; rintro e w' ⟨rfl, hw'⟩; obtain rfl := hw'.symm)
              | (go_at_call 78; (with_reducible refine (HK _ hB1).mono ?_); rintro e w2 ⟨rfl, hB2⟩; have m2 := (hB2.block w.heap.size (by simp)).trans hb0; obtain ⟨⟨p0, p1, p2, p3, p4, p5, p6, p7⟩, -⟩ := cell_row8 m2; have k2 := hB1.trans (hB2.mono hB1.size))
              | (go_at_call 79; refine (insesSize_in _ _ _ _).mono ?_; rintro e w' ⟨rfl, hw'⟩; obtain rfl := hw'.symm)
              | (go_at_call 80; refine (intsSize_in _ _ _ _).mono ?_; rintro e w' ⟨rfl, hw'⟩; obtain rfl := hw'.symm))
            go_ret
            exact ⟨rfl, k2⟩
        · have eF : (fnSizeP f : Int) = 1 + (f.name.size : Int) + (f.caps.length : Int) + (K : Int) + (f.code.length : Int) := by
            unfold fnSizeP
            rw [hK]
            rw [addIf_yes h0, addIf_yes h1, addIf_yes h2, addIf_no h3, addIf_no h3]
            omega
          rw [eF]
          have b0 : (1 + (f.name.size : Int) ≤ 1048576) := by omega
          have b1 : (1 + (f.name.size : Int) + (f.caps.length : Int) ≤ 1048576) := by omega
          have b2 : (1 + (f.name.size : Int) + (f.caps.length : Int) + (K : Int) ≤ 1048576) := by omega
          have b3 : ¬ (1 + (f.name.size : Int) + (f.caps.length : Int) + (K : Int) + (f.code.length : Int) ≤ 1048576) := by omega
          clear eF hK h0 h1 h2 h3
          go_enter Tryz.func37, Tryz.ntmps37
          go_wp2_with (first
            | (go_at_call 77; refine (capsSize_in _ _ _ _).mono ?_; rintro e w' ⟨rfl, hw'⟩; obtain rfl := hw'.symm)
            | (go_at_call 78; (with_reducible refine (HK _ hB1).mono ?_); rintro e w2 ⟨rfl, hB2⟩; have m2 := (hB2.block w.heap.size (by simp)).trans hb0; obtain ⟨⟨p0, p1, p2, p3, p4, p5, p6, p7⟩, -⟩ := cell_row8 m2; have k2 := hB1.trans (hB2.mono hB1.size))
            | (go_at_call 79; refine (insesSize_in _ _ _ _).mono ?_; rintro e w' ⟨rfl, hw'⟩; obtain rfl := hw'.symm))
          go_ret
          exact ⟨rfl, k2⟩
      · have eF : (fnSizeP f : Int) = 1 + (f.name.size : Int) + (f.caps.length : Int) + (K : Int) := by
          unfold fnSizeP
          rw [hK]
          rw [addIf_yes h0, addIf_yes h1, addIf_no h2, addIf_no h2, addIf_no h2]
          omega
        rw [eF]
        have b0 : (1 + (f.name.size : Int) ≤ 1048576) := by omega
        have b1 : (1 + (f.name.size : Int) + (f.caps.length : Int) ≤ 1048576) := by omega
        have b2 : ¬ (1 + (f.name.size : Int) + (f.caps.length : Int) + (K : Int) ≤ 1048576) := by omega
        clear eF hK h0 h1 h2
        go_enter Tryz.func37, Tryz.ntmps37
        go_wp2_with (first
          | (go_at_call 77; refine (capsSize_in _ _ _ _).mono ?_; rintro e w' ⟨rfl, hw'⟩; obtain rfl := hw'.symm)
          | (go_at_call 78; (with_reducible refine (HK _ hB1).mono ?_); rintro e w2 ⟨rfl, hB2⟩; have m2 := (hB2.block w.heap.size (by simp)).trans hb0; obtain ⟨⟨p0, p1, p2, p3, p4, p5, p6, p7⟩, -⟩ := cell_row8 m2; have k2 := hB1.trans (hB2.mono hB1.size)))
        go_ret
        exact ⟨rfl, k2⟩
    · have eF : (fnSizeP f : Int) = 1 + (f.name.size : Int) + (f.caps.length : Int) := by
        unfold fnSizeP
        rw [hK]
        rw [addIf_yes h0, addIf_no h1, addIf_no h1, addIf_no h1, addIf_no h1]
        omega
      rw [eF]
      have b0 : (1 + (f.name.size : Int) ≤ 1048576) := by omega
      have b1 : ¬ (1 + (f.name.size : Int) + (f.caps.length : Int) ≤ 1048576) := by omega
      clear eF hK h0 h1
      go_enter Tryz.func37, Tryz.ntmps37
      go_wp2_with (first
        | (go_at_call 77; refine (capsSize_in _ _ _ _).mono ?_; rintro e w' ⟨rfl, hw'⟩; obtain rfl := hw'.symm))
      go_ret
      exact ⟨rfl, hB1⟩
  · have eF : (fnSizeP f : Int) = 1 + (f.name.size : Int) := by
      unfold fnSizeP
      rw [hK]
      rw [addIf_no h0, addIf_no h0, addIf_no h0, addIf_no h0, addIf_no h0]
      omega
    rw [eF]
    have b0 : ¬ (1 + (f.name.size : Int) ≤ 1048576) := by omega
    clear eF hK h0
    go_enter Tryz.func37, Tryz.ntmps37
    go_wp2
    go_ret
    exact ⟨rfl, hB1⟩

set_option maxRecDepth 20000 in
set_option maxHeartbeats 2000000 in
theorem fnsSize_in {p : Option Addr} {l : List Fm} (c : Nat) (hv : IsFns w p l) (hlen : l.length ≤ 140737488355328) (hb : ∀ f ∈ l, CameF f) :
    Calls Tryz.prog 21 #[.slice p l.length c] w fun e w' => e = .returned (.int .i64 (sizeF l l.length : Nat)) ∧ Below w.heap.size w w' := by
  go_enter Tryz.func21, Tryz.ntmps21
  go_wp2
  go_loopw [3, 4] (fun t k wr => ∃ (pre rest : List Fm) (N : Nat), k = .int .i64 pre.length ∧ t = .int .i64 N ∧ l = pre ++ rest ∧ sizeF l l.length = sizeF rest N ∧ N ≤ 1125899906842624 + 1048576 ∧ Below w.heap.size w wr) (fun _ k _ => l.length - (intOf k).toNat)
  case atStart => exact ⟨[], l, l.length, rfl, rfl, rfl, rfl, by omega, Below.refl _ _⟩
  case round =>
    obtain ⟨pre, rest, N, rfl, rfl, hR, hN, hNb, hB⟩ := hrel
    have HN : Hid _ := hN
    cases rest with
    | nil =>
      have hR' : l = pre := by simpa using hR
      have hq : ¬ ((pre.length : Int) < (l.length : Int)) := by rw [hR']; omega
      clear hR hR' hN
      go_wp2
      go_ret
      exact ⟨by rw [HN.out]; rfl, hB⟩
    | cons x rest =>
      have hlR : pre.length < l.length := by rw [hR]; simp
      have hlR' : (pre.length : Int) < (l.length : Int) := by omega
      by_cases hm : N ≤ 1048576
      · have hm' : (N : Int) ≤ 1048576 := by omega
        have hxb := hb x (by rw [hR]; simp)
        have hxs := hxb.size
        obtain ⟨b0, off, s, rfl, hvx, c0, c1, c2, c3, c4, c5, c6, c7⟩ := hv.look hB (j := pre.length) (f := x) (by rw [hR]; simp)
        have H1 := fnSize_in x s hvx hxb
        unfold fnA at H1
        have HR : Hid _ := And.intro hR hN
        have e1 : (((pre ++ [x]).length : Nat) : Int) = pre.length + 1 := by simp
        clear hR hN
        go_wp2_with (first
          | (go_at_call 37; refine H1.mono ?_; clear H1; rintro e w2 ⟨rfl, hB2⟩))
        go_roundw
        case rel =>
          refine ⟨pre ++ [x], rest, N + fnSizeP x, by rw [e1], by simp, by have := HR.out.1; simpa using this, ?_, by omega, hB.trans (hB2.mono hB.size)⟩
          rw [HR.out.2]; simp [sizeF, hm]
        case measure => simp [intOf]; omega
      · have hm' : ¬ ((N : Int) ≤ 1048576) := by omega
        clear hR hN
        go_wp2
        go_ret
        exact ⟨by rw [HN.out, sizeF_stop hm]; rfl, hB⟩

theorem programSize_in {p : Option Addr} {l : List Fm} (c : Nat) (hv : IsFns w p l) (hlen : l.length ≤ 140737488355328) (hb : ∀ f ∈ l, CameF f) :
    Calls Tryz.prog 13 #[.slice p l.length c] w fun e w' => e = .returned (.int .i64 (sizeF l l.length : Nat)) ∧ Below w.heap.size w w' := by
  have H := fnsSize_in c hv hlen hb
  go_enter Tryz.func13, Tryz.ntmps13
  go_wp2_with (first
    | (go_at_call 21; refine H.mono ?_; clear H; rintro e w2 ⟨rfl, h3⟩))
  go_ret
  exact ⟨rfl, h3⟩

/-- A program that is not too great. -/
structure SmallP (l : List Fm) : Prop where
  len : l.length ≤ 1048576
  fns : ∀ f ∈ l, Small f

end Go.Proofs.YtnekcomkochmjaaGreatDoor
