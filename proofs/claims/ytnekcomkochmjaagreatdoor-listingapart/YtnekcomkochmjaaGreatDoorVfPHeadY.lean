/- A region's order, step by step. -/
import Derived.Test.YtnekcomkochmjaaGreatDoorVfPHeadG
namespace Go.Proofs.YtnekcomkochmjaaGreatDoor
set_option linter.unusedVariables false
set_option linter.unusedSimpArgs false
open Go.RowKit

/-- The first k operations are listed. -/
def lst (n k : Nat) : Array Bool := (List.replicate k true ++ List.replicate (n - k) false).toArray

theorem lst_set {n k : Nat} (h : k < n) : (lst n k).setIfInBounds k true = lst n (k + 1) := by
  unfold lst
  rw [List.setIfInBounds_toArray]
  congr 1
  apply List.ext_getElem?
  intro j
  rw [List.getElem?_set]
  by_cases q : k = j
  · subst q
    simp [List.getElem?_append, List.getElem?_replicate]
    omega
  · simp only [q, if_false]
    simp only [List.getElem?_append, List.getElem?_replicate, List.length_replicate]
    repeat' split
    all_goals first | rfl | (exfalso; omega)

def stepB (n : Nat) (ops : Array Oper) (k : Nat) : Bool := (Region.ready .any ops (lst n k)).contains k && Region.free .any ops (lst n k) k

theorem lex_from {ops : Array Oper} {n : Nat} (h : ∀ k, k < n → stepB n ops k = true) (hl : Region.lexFrom .any ops 0 n (lst n n) = true) : ∀ (m k : Nat), k + m = n → Region.lexFrom .any ops m k (lst n k) = true
  | 0, k, e => by
    have : k = n := by omega
    subst this
    exact hl
  | m + 1, k, e => by
    have h1 := h k (by omega)
    unfold stepB at h1
    rw [Bool.and_eq_true] at h1
    unfold Region.lexFrom
    rw [h1.1, h1.2, lst_set (by omega), lex_from h hl m (k + 1) (by omega)]
    rfl

theorem lex_of {ops : Array Oper} (hn : ops.size = 107) (h0 : Region.noSelect ops = true) (hl : Region.lexFrom .any ops 0 107 (lst 107 107) = true)
    (h : ∀ i, i < 27 → ((List.range' (4 * i) (min 4 (107 - 4 * i))).all (stepB 107 ops)) = true) : Region.lexB .any ops = true := by
  unfold Region.lexB
  rw [h0, Bool.true_and, hn]
  have e : Array.replicate 107 false = lst 107 0 := rfl
  rw [e]
  refine lex_from (fun k hk => ?_) hl 107 0 rfl
  have h1 := h (k / 4) (by omega)
  rw [List.all_eq_true] at h1
  refine h1 k (List.mem_range'.2 ⟨k - 4 * (k / 4), by omega, by omega⟩)

/-- The operations of a region that draws its order. -/
def regOf (k : Nat) : Code → Option (Array Oper)
  | .region id ops true => if id = k then some ops else none
  | .seq a b => (regOf k a).or (regOf k b)
  | .block _ a => regOf k a
  | .scope a => regOf k a
  | .loop a => regOf k a
  | .cond _ a b => (regOf k a).or (regOf k b)
  | _ => none

theorem chunk_of {α β : Type} {x : Option α} {f : α → β} {b : β} (h : x.map f = some b) {a : α} (ha : x = some a) : f a = b := by
  rw [ha] at h
  exact Option.some.inj h

end Go.Proofs.YtnekcomkochmjaaGreatDoor

namespace Go.Proofs.YtnekcomkochmjaaGreatDoor
set_option linter.unusedVariables false
set_option linter.unusedSimpArgs false
open Go.RowKit

theorem lexn : ((Tryz.f25.body).bind (regOf 1)).map (fun ops => ops.size) = some 107 := by kernel_rfl

theorem lex0 : ((Tryz.f25.body).bind (regOf 1)).map (fun ops => Region.noSelect ops) = some true := by kernel_rfl

theorem lexz : ((Tryz.f25.body).bind (regOf 1)).map (fun ops => Region.lexFrom .any ops 0 107 (lst 107 107)) = some true := by kernel_rfl

theorem lexc0 : ((Tryz.f25.body).bind (regOf 1)).map (fun ops => (List.range' (4 * 0) (min 4 (107 - 4 * 0))).all (stepB 107 ops)) = some true := by kernel_rfl

theorem lexc1 : ((Tryz.f25.body).bind (regOf 1)).map (fun ops => (List.range' (4 * 1) (min 4 (107 - 4 * 1))).all (stepB 107 ops)) = some true := by kernel_rfl

theorem lexc2 : ((Tryz.f25.body).bind (regOf 1)).map (fun ops => (List.range' (4 * 2) (min 4 (107 - 4 * 2))).all (stepB 107 ops)) = some true := by kernel_rfl

theorem lexc3 : ((Tryz.f25.body).bind (regOf 1)).map (fun ops => (List.range' (4 * 3) (min 4 (107 - 4 * 3))).all (stepB 107 ops)) = some true := by kernel_rfl

theorem lexc4 : ((Tryz.f25.body).bind (regOf 1)).map (fun ops => (List.range' (4 * 4) (min 4 (107 - 4 * 4))).all (stepB 107 ops)) = some true := by kernel_rfl

theorem lexc5 : ((Tryz.f25.body).bind (regOf 1)).map (fun ops => (List.range' (4 * 5) (min 4 (107 - 4 * 5))).all (stepB 107 ops)) = some true := by kernel_rfl

theorem lexc6 : ((Tryz.f25.body).bind (regOf 1)).map (fun ops => (List.range' (4 * 6) (min 4 (107 - 4 * 6))).all (stepB 107 ops)) = some true := by kernel_rfl

theorem lexc7 : ((Tryz.f25.body).bind (regOf 1)).map (fun ops => (List.range' (4 * 7) (min 4 (107 - 4 * 7))).all (stepB 107 ops)) = some true := by kernel_rfl

theorem lexc8 : ((Tryz.f25.body).bind (regOf 1)).map (fun ops => (List.range' (4 * 8) (min 4 (107 - 4 * 8))).all (stepB 107 ops)) = some true := by kernel_rfl

end Go.Proofs.YtnekcomkochmjaaGreatDoor

namespace Go.Proofs.YtnekcomkochmjaaGreatDoor
set_option linter.unusedVariables false
set_option linter.unusedSimpArgs false
open Go.RowKit

theorem lexc9 : ((Tryz.f25.body).bind (regOf 1)).map (fun ops => (List.range' (4 * 9) (min 4 (107 - 4 * 9))).all (stepB 107 ops)) = some true := by kernel_rfl

theorem lexc10 : ((Tryz.f25.body).bind (regOf 1)).map (fun ops => (List.range' (4 * 10) (min 4 (107 - 4 * 10))).all (stepB 107 ops)) = some true := by kernel_rfl

theorem lexc11 : ((Tryz.f25.body).bind (regOf 1)).map (fun ops => (List.range' (4 * 11) (min 4 (107 - 4 * 11))).all (stepB 107 ops)) = some true := by kernel_rfl

theorem lexc12 : ((Tryz.f25.body).bind (regOf 1)).map (fun ops => (List.range' (4 * 12) (min 4 (107 - 4 * 12))).all (stepB 107 ops)) = some true := by kernel_rfl

theorem lexc13 : ((Tryz.f25.body).bind (regOf 1)).map (fun ops => (List.range' (4 * 13) (min 4 (107 - 4 * 13))).all (stepB 107 ops)) = some true := by kernel_rfl

theorem lexc14 : ((Tryz.f25.body).bind (regOf 1)).map (fun ops => (List.range' (4 * 14) (min 4 (107 - 4 * 14))).all (stepB 107 ops)) = some true := by kernel_rfl

theorem lexc15 : ((Tryz.f25.body).bind (regOf 1)).map (fun ops => (List.range' (4 * 15) (min 4 (107 - 4 * 15))).all (stepB 107 ops)) = some true := by kernel_rfl

theorem lexc16 : ((Tryz.f25.body).bind (regOf 1)).map (fun ops => (List.range' (4 * 16) (min 4 (107 - 4 * 16))).all (stepB 107 ops)) = some true := by kernel_rfl

theorem lexc17 : ((Tryz.f25.body).bind (regOf 1)).map (fun ops => (List.range' (4 * 17) (min 4 (107 - 4 * 17))).all (stepB 107 ops)) = some true := by kernel_rfl

end Go.Proofs.YtnekcomkochmjaaGreatDoor

namespace Go.Proofs.YtnekcomkochmjaaGreatDoor
set_option linter.unusedVariables false
set_option linter.unusedSimpArgs false
open Go.RowKit

theorem lexc18 : ((Tryz.f25.body).bind (regOf 1)).map (fun ops => (List.range' (4 * 18) (min 4 (107 - 4 * 18))).all (stepB 107 ops)) = some true := by kernel_rfl

theorem lexc19 : ((Tryz.f25.body).bind (regOf 1)).map (fun ops => (List.range' (4 * 19) (min 4 (107 - 4 * 19))).all (stepB 107 ops)) = some true := by kernel_rfl

theorem lexc20 : ((Tryz.f25.body).bind (regOf 1)).map (fun ops => (List.range' (4 * 20) (min 4 (107 - 4 * 20))).all (stepB 107 ops)) = some true := by kernel_rfl

theorem lexc21 : ((Tryz.f25.body).bind (regOf 1)).map (fun ops => (List.range' (4 * 21) (min 4 (107 - 4 * 21))).all (stepB 107 ops)) = some true := by kernel_rfl

theorem lexc22 : ((Tryz.f25.body).bind (regOf 1)).map (fun ops => (List.range' (4 * 22) (min 4 (107 - 4 * 22))).all (stepB 107 ops)) = some true := by kernel_rfl

theorem lexc23 : ((Tryz.f25.body).bind (regOf 1)).map (fun ops => (List.range' (4 * 23) (min 4 (107 - 4 * 23))).all (stepB 107 ops)) = some true := by kernel_rfl

theorem lexc24 : ((Tryz.f25.body).bind (regOf 1)).map (fun ops => (List.range' (4 * 24) (min 4 (107 - 4 * 24))).all (stepB 107 ops)) = some true := by kernel_rfl

theorem lexc25 : ((Tryz.f25.body).bind (regOf 1)).map (fun ops => (List.range' (4 * 25) (min 4 (107 - 4 * 25))).all (stepB 107 ops)) = some true := by kernel_rfl

theorem lexc26 : ((Tryz.f25.body).bind (regOf 1)).map (fun ops => (List.range' (4 * 26) (min 4 (107 - 4 * 26))).all (stepB 107 ops)) = some true := by kernel_rfl

end Go.Proofs.YtnekcomkochmjaaGreatDoor

namespace Go.Proofs.YtnekcomkochmjaaGreatDoor
set_option linter.unusedVariables false
set_option linter.unusedSimpArgs false
open Go.RowKit

variable {w : World}

theorem lex_all {ops : Array Oper} (h : (Tryz.f25.body).bind (regOf 1) = some ops) : Region.lexB .any ops = true := by
  refine lex_of (chunk_of lexn h) (chunk_of lex0 h) (chunk_of lexz h) (fun i hi => ?_)
  by_cases q2 : i < 13
  · by_cases q4 : i < 6
    · by_cases q6 : i < 3
      · by_cases q8 : i < 1
        · obtain rfl : i = 0 := by omega
          exact chunk_of lexc0 h
        · by_cases q10 : i < 2
          · obtain rfl : i = 1 := by omega
            exact chunk_of lexc1 h
          · obtain rfl : i = 2 := by omega
            exact chunk_of lexc2 h
      · by_cases q8 : i < 4
        · obtain rfl : i = 3 := by omega
          exact chunk_of lexc3 h
        · by_cases q10 : i < 5
          · obtain rfl : i = 4 := by omega
            exact chunk_of lexc4 h
          · obtain rfl : i = 5 := by omega
            exact chunk_of lexc5 h
    · by_cases q6 : i < 9
      · by_cases q8 : i < 7
        · obtain rfl : i = 6 := by omega
          exact chunk_of lexc6 h
        · by_cases q10 : i < 8
          · obtain rfl : i = 7 := by omega
            exact chunk_of lexc7 h
          · obtain rfl : i = 8 := by omega
            exact chunk_of lexc8 h
      · by_cases q8 : i < 11
        · by_cases q10 : i < 10
          · obtain rfl : i = 9 := by omega
            exact chunk_of lexc9 h
          · obtain rfl : i = 10 := by omega
            exact chunk_of lexc10 h
        · by_cases q10 : i < 12
          · obtain rfl : i = 11 := by omega
            exact chunk_of lexc11 h
          · obtain rfl : i = 12 := by omega
            exact chunk_of lexc12 h
  · by_cases q4 : i < 20
    · by_cases q6 : i < 16
      · by_cases q8 : i < 14
        · obtain rfl : i = 13 := by omega
          exact chunk_of lexc13 h
        · by_cases q10 : i < 15
          · obtain rfl : i = 14 := by omega
            exact chunk_of lexc14 h
          · obtain rfl : i = 15 := by omega
            exact chunk_of lexc15 h
      · by_cases q8 : i < 18
        · by_cases q10 : i < 17
          · obtain rfl : i = 16 := by omega
            exact chunk_of lexc16 h
          · obtain rfl : i = 17 := by omega
            exact chunk_of lexc17 h
        · by_cases q10 : i < 19
          · obtain rfl : i = 18 := by omega
            exact chunk_of lexc18 h
          · obtain rfl : i = 19 := by omega
            exact chunk_of lexc19 h
    · by_cases q6 : i < 23
      · by_cases q8 : i < 21
        · obtain rfl : i = 20 := by omega
          exact chunk_of lexc20 h
        · by_cases q10 : i < 22
          · obtain rfl : i = 21 := by omega
            exact chunk_of lexc21 h
          · obtain rfl : i = 22 := by omega
            exact chunk_of lexc22 h
      · by_cases q8 : i < 25
        · by_cases q10 : i < 24
          · obtain rfl : i = 23 := by omega
            exact chunk_of lexc23 h
          · obtain rfl : i = 24 := by omega
            exact chunk_of lexc24 h
        · by_cases q10 : i < 26
          · obtain rfl : i = 25 := by omega
            exact chunk_of lexc25 h
          · obtain rfl : i = 26 := by omega
            exact chunk_of lexc26 h

set_option maxRecDepth 20000 in
set_option maxHeartbeats 8000000 in
theorem headMayBe_in {b0 o : Nat} {f : Fm} {s : Fs} (h : FnP w b0 o f s) (hfit : FitF f) :
    Calls Tryz.prog 25 #[.pointer (some ⟨b0, o, none⟩)] w fun e w' => e = .returned (.bool (headP f false)) ∧ Below w.heap.size w w' := by
  have hBa := below1 w (.cells #[.pointer (some ⟨b0, o, none⟩)] 54)
  have hbx : (w.alloc (.cells #[.pointer (some ⟨b0, o, none⟩)] 54)).cell? ⟨w.heap.size, 0, none⟩ = some (.pointer (some ⟨b0, o, none⟩)) := by rw [cell_of_row _ _ 0 _ _ _ (heap_alloc_new w _)]; rfl
  have hp := h.below hBa
  obtain ⟨WA, hWA⟩ : ∃ WA, w.alloc (.cells #[.pointer (some ⟨b0, o, none⟩)] 54) = WA := ⟨_, rfl⟩
  have hsz : w.heap.size < WA.heap.size := by rw [← hWA]; simp
  rw [hWA] at hBa hbx hp
  have FC : ∀ W, Below WA.heap.size WA W → _ := fun W hB => head_facts hp hbx hsz hB
  have K6 : pre (condF f) 6 = true → ∀ W, Below WA.heap.size WA W → Calls Tryz.prog 41 #[.slice s.qk f.consts.length s.ck, .func (.func 42) #[] #[]] W (fun e w'' => e = .returned (.bool (condF f 6)) ∧ Below WA.heap.size WA w'') := fun hq W hB => by
    have h5 : decide ((f.consts.length : Int) ≤ 16384) = true := (pre_last hq).2
    simp at h5
    exact (allConst_in (w := W) s.qk s.ck f.consts hfit.consts (by omega) (hp.below hB).fn.consts).mono (fun e w' q => ⟨q.1, hB.trans (q.2.mono hB.size)⟩)
  have K10 : pre (condF f) 10 = true → ∀ W, Below WA.heap.size WA W → Calls Tryz.prog 43 #[.slice s.ql f.lines.length s.cl, .func (.func 44) #[] #[]] W (fun e w'' => e = .returned (.bool (condF f 10)) ∧ Below WA.heap.size WA w'') := fun hq W hB => by
    have h9 : ((f.lines.length : Int) == (f.code.length : Int)) = true := (pre_last hq).2
    have h8 : decide ((f.code.length : Int) ≤ 16384) = true := (pre_last (pre_last hq).1).2
    simp at h9 h8
    exact (allLine_in (w := W) s.ql s.cl f.lines (by omega) (hp.below hB).fn.lines).mono (fun e w' q => ⟨q.1, hB.trans (q.2.mono hB.size)⟩)
  have K12 : pre (condF f) 12 = true → ∀ W, Below WA.heap.size WA W → Calls Tryz.prog 45 #[.slice s.qh f.hs.length s.ch, .func (.func 46) #[] #[.pointer (some ⟨w.heap.size, 0, none⟩)]] W (fun e w'' => e = .returned (.bool (condF f 12)) ∧ Below WA.heap.size WA w'') := fun hq W hB => by
    have h11 : decide ((f.hs.length : Int) ≤ 16384) = true := (pre_last hq).2
    simp at h11
    exact (allHand_in (w := W) s.qh s.ch f.hs (hp.below hB) ((hB.cell (p := ⟨w.heap.size, 0, none⟩) hsz).trans hbx) (Nat.lt_of_lt_of_le hsz hB.size) (by omega) (hp.below hB).fn.hs).mono (fun e w' q => ⟨q.1, hB.trans (q.2.mono hB.size)⟩)
  have HST := fun (ops : Array Oper) (a0 : Act) (htab : ops.toList.map tri = opT) (ha0 : a0.tmps[1]? = some (.pointer (some ⟨w.heap.size, 0, none⟩))) => head_step (C := fun W => Below WA.heap.size WA W) (β := condF f) (f := f) (s := s) (b0 := b0) (o := o) (bx := w.heap.size) htab FC ha0 rfl rfl rfl rfl rfl rfl rfl rfl rfl rfl K6 K10 K12
  have HQ : ∀ (ops : Array Oper) (a0 : Act), ops.toList.map tri = opT → a0.tmps[1]? = some (.pointer (some ⟨w.heap.size, 0, none⟩)) → a0.tmps.size = 109 → wpQuiet Tryz.prog ops (fun W => Below WA.heap.size WA W) (fun a' => Known ops (wantF (condF f)) (valF (condF f) f s b0 o w.heap.size) a0 ops.size a') ops.toList a0 := fun ops a0 htab ha0 hs0 => by
    have := quiet_all (P := Tryz.prog) (ops := ops) (C := fun W => Below WA.heap.size WA W) (want := wantF (condF f)) (val := valF (condF f) f s b0 o w.heap.size) (a0 := a0)
      (fun i j x y d hi hj hx hy => dst_apart i (ops_lt htab hi) j (ops_lt htab hj) (by rw [ops_dst htab hi, ops_dst htab hj, hx, hy]) (by rw [ops_dst htab hi, hx]; simp))
      (fun j x d hj hx => by rw [hs0]; exact (dst_low j (ops_lt htab hj) d (by rw [ops_dst htab hj, hx])).1)
      (head_guards htab) (HST ops a0 htab ha0) ops.size 0 a0 rfl ⟨rfl, rfl, fun t _ => rfl, fun j o d _ _ hj => by omega⟩
    simpa using this
  have HF : Hid _ := HQ
  clear HST K6 K10 K12 HQ h hp FC hfit
  go_enter Tryz.func25, Tryz.ntmps25
  go_wp2
  refine wp_region_quiet (C := fun W => Below WA.heap.size WA W) (by kernel_rfl) (lex_all (by kernel_rfl)) (drewP (Below.refl _ _)) (wpQuiet_mono (fun a' hk W hB => ?_) _ _ (HF.out _ _ (by kernel_rfl) rfl rfl))
  have h2 := head_end (by kernel_rfl) hk
  rw [pre_head] at h2
  have hd : a'.defers = [] := hk.defers
  have hg : a'.tmps.getD 2 undef = .bool (headP f false) := by rw [Array.getD_eq_getD_getElem?, h2]; rfl
  clear hk h2 HF
  obtain ⟨tm, df⟩ := a'
  simp only at hd hg
  subst hd
  simp only [Exit.then]
  rename_i K hK
  refine hK _ _ ?_
  go_wp2
  refine bodyPost_ret (results_tmp (by rfl) _ _ _) (by rfl) ?_
  rw [hg]
  exact ⟨rfl, hBa.trans (hB.mono hBa.size)⟩

end Go.Proofs.YtnekcomkochmjaaGreatDoor
