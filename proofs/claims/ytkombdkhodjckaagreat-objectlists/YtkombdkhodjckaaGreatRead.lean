/- cut: the arena ends at a place. -/
import Derived.Test.YtkombdkhodjckaaGreatAdd
namespace Go.Proofs.YtkombdkhodjckaaGreat
open Go.RowKit

variable {n₀ b : Nat} {vw vb : Value} {w : World} {A : Ar}

def cutA (A : Ar) (stays : Option Nat) (at_ : Nat) : Ar :=
  let A1 := tieA A stays none
  { A1 with ws := A1.ws.take at_, bs := A1.bs.take at_ }

theorem row_shorter' {w : World} {base : Nat} {e : TypeId} {p : Option Addr} {n c m : Nat} {xs : List Value} (h : w.ownsRow base e 1 (.slice p n c) n xs) (hm : m ≤ n) : w.ownsRow base e 1 (.slice p m c) m (xs.take m) := by
  rcases h.2 with ⟨h', h0⟩ | ⟨g', cap, cur, h', _⟩
  · have hl : xs.length = n := by simpa using h.1
    obtain rfl : m = 0 := by omega
    simp only [Value.slice.injEq] at h'
    obtain ⟨rfl, rfl, rfl⟩ := h'
    exact ⟨by simp, .inl ⟨rfl, rfl⟩⟩
  · simp only [Value.slice.injEq] at h'
    obtain ⟨rfl, _, rfl⟩ := h'
    exact row_shorter h hm

/-- The words are cut, and stored. -/
theorem IsAr.cutWords {p : Option Addr} {c m : Nat} (h : IsAr n₀ b (.slice p A.ws.length c) vb w A) (hm : m ≤ A.ws.length) :
    IsAr n₀ b (.slice p m c) vb (w.setCell ⟨b, 1, none⟩ (.slice p m c)) { A with ws := A.ws.take m } ∧ Step b (.slice p A.ws.length c) vb w (.slice p m c) vb (w.setCell ⟨b, 1, none⟩ (.slice p m c)) := by
  have hgr : w.grownBy (w.setCell ⟨b, 1, none⟩ (.slice p m c)) (some b) := ⟨rfl, rfl, rfl, by simp [World.setCell], fun k _ hk => heap_setCell_other w ⟨b, 1, none⟩ k _ (fun e => hk (by rw [e]))⟩
  have hob : (Value.slice p m c).ownBlock = (Value.slice p A.ws.length c).ownBlock := by cases p <;> rfl
  refine ⟨⟨h.base, ?_, ?_, h.rb.kept hgr (.inr h.nb), h.leb, ?_, h.lim, fun x hx => h.val x (List.mem_of_mem_take hx)⟩, ⟨rfl, rfl, rfl, by simp [World.setCell], fun k _ hb _ _ => heap_setCell_other w ⟨b, 1, none⟩ k _ hb, ?_, fun _ h => .inl h⟩⟩
  · have := heap_setCell_same w b 1 _ 138 (.slice p m c) h.blk
    simpa using this
  · have := (row_shorter' h.rw hm).kept hgr (.inr (by rw [hob]; exact h.nw))
    rw [← List.map_take] at this
    have e : (A.ws.take m).length = m := by simp; omega
    simpa [e] using this
  · have := h.le; simp; omega
  · intro k hk; left; rw [← hob]; exact hk

theorem IsAr.cutMarks {p : Option Addr} {c m : Nat} (h : IsAr n₀ b vw (.slice p A.bs.length c) w A) (hm : m ≤ A.bs.length) :
    IsAr n₀ b vw (.slice p m c) (w.setCell ⟨b, 2, none⟩ (.slice p m c)) { A with bs := A.bs.take m } ∧ Step b vw (.slice p A.bs.length c) w vw (.slice p m c) (w.setCell ⟨b, 2, none⟩ (.slice p m c)) := by
  have hgr : w.grownBy (w.setCell ⟨b, 2, none⟩ (.slice p m c)) (some b) := ⟨rfl, rfl, rfl, by simp [World.setCell], fun k _ hk => heap_setCell_other w ⟨b, 2, none⟩ k _ (fun e => hk (by rw [e]))⟩
  have hob : (Value.slice p m c).ownBlock = (Value.slice p A.bs.length c).ownBlock := by cases p <;> rfl
  refine ⟨⟨h.base, ?_, h.rw.kept hgr (.inr h.nw), ?_, ?_, h.le, h.lim, h.val⟩, ⟨rfl, rfl, rfl, by simp [World.setCell], fun k _ hb _ _ => heap_setCell_other w ⟨b, 2, none⟩ k _ hb, fun _ h => .inl h, ?_⟩⟩
  · have := heap_setCell_same w b 2 _ 138 (.slice p m c) h.blk
    simpa using this
  · have := (row_shorter' h.rb hm).kept hgr (.inr (by rw [hob]; exact h.nb))
    rw [← List.map_take] at this
    have e : (A.bs.take m).length = m := by simp; omega
    simpa [e] using this
  · have := h.leb; simp; omega
  · intro k hk; left; rw [← hob]; exact hk

set_option maxHeartbeats 1000000 in
theorem cut_in (h : IsAr n₀ b vw vb w A) (stays : Option Nat) (at_ : Nat) (hst : ∀ i, stays = some i → i < A.ws.length) (hat : at_ ≤ A.ws.length) (hl : A.bs.length = A.ws.length) :
    Calls Tryz.prog 84 #[.pointer (some ⟨b, 0, none⟩), .int .i64 (optI stays), .int .i64 at_] w fun e w' => e = .returned (.tuple #[]) ∧
      ∃ vw' vb', IsAr n₀ b vw' vb' w' (cutA A stays at_) ∧ Step b vw vb w vw' vb' w' := by
  have ht := tie_in h stays none (fun i hi => ⟨hst i hi, fun h => (h rfl).elim⟩) (fun i hi => by cases hi)
  have hlen := tieA_len A stays none
  have hbs := tieA_bs A stays none
  unfold cutA
  obtain ⟨A1, hA1⟩ : ∃ A1, tieA A stays none = A1 := ⟨_, rfl⟩
  rw [hA1] at ht hlen hbs ⊢
  have hlim : A.limit ≤ 1048576 := h.lim
  have hle := h.le
  clear hA1 h
  go_enter Tryz.func84, Tryz.ntmps84
  go_wp2_with (go_at_call 113; refine ht.mono ?_; clear ht; rintro e w1 ⟨rfl, h1, hS1⟩
               obtain ⟨p, c, rfl, hc1, hc2⟩ := IsAr.row_form h1.rw
               obtain ⟨p2, c2, rfl, hc3, hc4⟩ := IsAr.row_form h1.rb
               have d1 := h1.c1
               have d2 := h1.c2
               have f1 := h1.f 1
               have f2 := h1.f 2
               have HL : Hid (A1.ws.length = A.ws.length ∧ A1.bs = A.bs ∧ A.bs.length = A.ws.length) := ⟨hlen, hbs, hl⟩
               have q1 : at_ ≤ c := by omega
               have q2 : at_ ≤ c2 := by rw [hbs] at hc3; omega
               clear hlen hbs hl)
  go_end0
  obtain ⟨e1, e2, e3⟩ := HL.out
  obtain ⟨h2, hS2⟩ := h1.cutWords (m := at_) (by omega)
  obtain ⟨h3, hS3⟩ := IsAr.cutMarks (A := { A1 with ws := A1.ws.take at_ }) (m := at_) h2 (by show at_ ≤ A1.bs.length; rw [e2]; omega)
  exact ⟨rfl, _, _, h3, hS1.trans (hS2.trans hS3)⟩

end Go.Proofs.YtkombdkhodjckaaGreat

namespace Go.Proofs.YtkombdkhodjckaaGreat
open Go.RowKit

/-- The heap at block bh, its arena at block b. -/
structure IsHp (n₀ bh b : Nat) (vw vb : Value) (w : World) (A : Ar) : Prop where
  hbase : n₀ ≤ bh
  hblk : w.heap[bh]? = some (.cells #[.pointer (some ⟨b, 0, none⟩)] 88 (0, 0))
  ar : IsAr n₀ b vw vb w A

variable {n₀ bh b : Nat} {vw vb : Value} {w : World} {A : Ar}

theorem IsHp.hlt (h : IsHp n₀ bh b vw vb w A) : bh < w.heap.size := (Array.getElem?_eq_some_iff.1 h.hblk).1

theorem IsHp.c (h : IsHp n₀ bh b vw vb w A) : w.cell? ⟨bh, 0, none⟩ = some (.pointer (some ⟨b, 0, none⟩)) := by rw [cell_of_row w bh 0 _ _ _ h.hblk]; rfl

theorem IsHp.ne (h : IsHp n₀ bh b vw vb w A) : bh ≠ b := by
  intro e; have := h.hblk; rw [e, h.ar.blk] at this; simp at this

theorem IsHp.step (h : IsHp n₀ bh b vw vb w A) {vw' vb' : Value} {w' : World} {A' : Ar} (hS : Step b vw vb w vw' vb' w') (hA : IsAr n₀ b vw' vb' w' A') : IsHp n₀ bh b vw' vb' w' A' := by
  refine ⟨h.hbase, (hS.block bh h.hlt h.ne ?_ ?_).trans h.hblk, hA⟩
  · intro e; obtain ⟨cur, hc⟩ := IsAr.row_type h.ar.rw e.symm; rw [h.hblk] at hc; simp at hc
  · intro e; obtain ⟨cur, hc⟩ := IsAr.row_type h.ar.rb e.symm; rw [h.hblk] at hc; simp at hc

theorem IsHp.below (h : IsHp n₀ bh b vw vb w A) {w' : World} (hB : Below w.heap.size w w') : IsHp n₀ bh b vw vb w' A :=
  ⟨h.hbase, (hB.block bh h.hlt).trans h.hblk, h.ar.below hB⟩

theorem IsHp.drew (h : IsHp n₀ bh b vw vb w A) : IsHp n₀ bh b vw vb w.drew A := ⟨h.hbase, h.hblk, h.ar.drew⟩

theorem IsHp.drewN (h : IsHp n₀ bh b vw vb w A) (k : Nat) : IsHp n₀ bh b vw vb (w.drewN k) A := ⟨h.hbase, h.hblk, h.ar.drewN k⟩

def newA (words : Nat) : Ar := { limit := words, ws := [], bs := [], last := none }

set_option maxHeartbeats 400000 in
theorem new_bad (n : Int) (w : World) (h : n < 1 ∨ 1048576 < n) : Calls Tryz.prog 14 #[.int .i64 n] w fun e w' => e = .returned (.tuple #[.pointer none, .int .i64 1]) ∧ w' = w := by
  rcases h with h | h
  · go_enter Tryz.func14, Tryz.ntmps14
    go_wp2
    go_ret2
    exact ⟨rfl, rfl⟩
  · have h' : ¬ n < 1 := by omega
    go_enter Tryz.func14, Tryz.ntmps14
    go_wp2
    go_ret2
    exact ⟨rfl, rfl⟩

set_option maxHeartbeats 400000 in
theorem new_in (n : Nat) (w : World) (h1 : 1 ≤ n) (h2 : n ≤ 1048576) : Calls Tryz.prog 14 #[.int .i64 n] w fun e w' => ∃ bh b vw vb, e = .returned (.tuple #[.pointer (some ⟨bh, 0, none⟩), .int .i64 0]) ∧
    IsHp w.heap.size bh b vw vb w' (newA n) ∧ Below w.heap.size w w' := by
  go_enter Tryz.func14, Tryz.ntmps14
  go_wp2
  go_ret2
  refine ⟨w.heap.size + 1, w.heap.size, .slice none 0 0, .slice none 0 0, rfl, ⟨Nat.le_succ _, ?_, ⟨Nat.le_refl _, ?_, World.ownsRow_nil _ _ _ _, World.ownsRow_nil _ _ _ _, by simp [newA], by simp [newA], h2, by simp [newA]⟩⟩, ?_⟩
  · have := heap_alloc_new (w.alloc (Obj.cells #[Value.int IntKind.i64 ↑n, Value.slice none 0 0, Value.slice none 0 0, Value.int IntKind.i64 (-1)] 138)) (Obj.cells #[Value.pointer (some { block := w.heap.size, off := 0 })] 88)
    rwa [World.size_alloc] at this
  · exact (Below.heap_alloc _ _ _ (by simp)).trans (heap_alloc_new w _)
  · exact ((Below.refl _ _).alloc (Nat.le_refl _) _).alloc (by simp) _

set_option maxHeartbeats 400000 in
theorem there_in (h : IsHp n₀ bh b vw vb w A) : Calls Tryz.prog 40 #[.pointer (some ⟨bh, 0, none⟩)] w fun e w' => e = .returned (.pointer (some ⟨b, 0, none⟩)) ∧ w' = w := by
  have hc := h.c
  clear h
  go_enter Tryz.func40, Tryz.ntmps40
  go_wp2
  go_ret
  exact ⟨rfl, rfl⟩

set_option maxHeartbeats 400000 in
theorem used_in (h : IsHp n₀ bh b vw vb w A) : Calls Tryz.prog 13 #[.pointer (some ⟨bh, 0, none⟩)] w fun e w' => e = .returned (.int .i64 A.ws.length) ∧ w' = w := by
  have h1 := there_in h
  have h2 := end_in h.ar
  clear h
  go_enter Tryz.func13, Tryz.ntmps13
  go_wp2_with (first
    | (go_at_call 40; refine h1.mono ?_; clear h1; rintro e w' ⟨rfl, rfl⟩)
    | (go_at_call 41; refine h2.mono ?_; clear h2; rintro e w' ⟨rfl, rfl⟩))
  go_ret
  exact ⟨rfl, rfl⟩

set_option maxHeartbeats 400000 in
theorem words_in (h : IsHp n₀ bh b vw vb w A) : Calls Tryz.prog 49 #[.pointer (some ⟨bh, 0, none⟩)] w fun e w' => e = .returned (.int .i64 A.limit) ∧ w' = w := by
  have h1 := there_in h
  have h2 := h.ar.c0
  clear h
  go_enter Tryz.func49, Tryz.ntmps49
  go_wp2_with (first
    | (go_at_call 40; refine h1.mono ?_; clear h1; rintro e w' ⟨rfl, rfl⟩))
  go_ret
  exact ⟨rfl, rfl⟩

/-- Does an object begin there? -/
def hasA (A : Ar) (i : Int) : Bool := decide (0 ≤ i) && A.bs.getD i.toNat false

set_option maxHeartbeats 400000 in
theorem find_yes (h : IsHp n₀ bh b vw vb w A) (hl : A.bs.length = A.ws.length) (i : Int) (hi : hasA A i = true) :
    Calls Tryz.prog 109 #[.pointer (some ⟨bh, 0, none⟩), .int .i64 i] w fun e w' => e = .returned (.tuple #[.pointer (some ⟨b, 0, none⟩), .int .i64 0]) ∧ w' = w := by
  have h1 := there_in h
  have h2 := has_in h.ar hl i
  rw [show (decide (0 ≤ i) && A.bs.getD i.toNat false) = true from hi] at h2
  clear h hi hl
  go_enter Tryz.func109, Tryz.ntmps109
  go_wp2_with (first
    | (go_at_call 40; refine h1.mono ?_; clear h1; rintro e w' ⟨rfl, rfl⟩)
    | (go_at_call 125; refine h2.mono ?_; clear h2; rintro e w' ⟨rfl, rfl⟩))
  go_ret2
  exact ⟨rfl, rfl⟩

set_option maxHeartbeats 400000 in
theorem find_no (h : IsHp n₀ bh b vw vb w A) (hl : A.bs.length = A.ws.length) (i : Int) (hi : hasA A i = false) :
    Calls Tryz.prog 109 #[.pointer (some ⟨bh, 0, none⟩), .int .i64 i] w fun e w' => e = .returned (.tuple #[.pointer none, .int .i64 1]) ∧ w' = w := by
  have h1 := there_in h
  have h2 := has_in h.ar hl i
  rw [show (decide (0 ≤ i) && A.bs.getD i.toNat false) = false from hi] at h2
  clear h hi hl
  go_enter Tryz.func109, Tryz.ntmps109
  go_wp2_with (first
    | (go_at_call 40; refine h1.mono ?_; clear h1; rintro e w' ⟨rfl, rfl⟩)
    | (go_at_call 125; refine h2.mono ?_; clear h2; rintro e w' ⟨rfl, rfl⟩))
  go_ret2
  exact ⟨rfl, rfl⟩

theorem kinds {k : Nat} (h : 3 ≤ k ∧ k ≤ 8) : k < 16 := by omega

set_option maxHeartbeats 1000000 in
/-- Alloc: what may be and fits. -/
theorem alloc_ok (h : IsHp n₀ bh b vw vb w A) (hl : A.bs.length = A.ws.length) (hlast : ∀ i, A.last = some i → i < A.ws.length) (k size : Nat) (hk : 3 ≤ k) (hk8 : k ≤ 8) (hs : A.ws.length + size + 1 ≤ A.limit) :
    Calls Tryz.prog 53 #[.pointer (some ⟨bh, 0, none⟩), .int .u8 k, .int .i64 size] w fun e w' => e = .returned (.tuple #[.int .i64 A.ws.length, .int .i64 0]) ∧
      ∃ vw' vb', IsHp n₀ bh b vw' vb' w' (addA A k size) ∧ Step b vw vb w vw' vb' w' := by
  have h1 := there_in h
  have h2 := free_in h.ar
  have h3 := fun q => add_in (h.ar.drewN q) hl hlast k size (by omega) hs
  have H : Hid (IsHp n₀ bh b vw vb w A) := h
  clear h hl hlast
  go_enter Tryz.func53, Tryz.ntmps53
  go_wp2_with (first
    | (go_at_call 40; refine h1.mono ?_; clear h1; rintro e w' ⟨rfl, rfl⟩)
    | (go_at_call 91; refine h2.mono ?_; clear h2; rintro e w' ⟨rfl, q, rfl⟩)
    | (go_at_call 92; refine (h3 q).mono ?_; clear h3; rintro e w' ⟨rfl, vw', vb', hA', hS'⟩))
  go_ret2
  exact ⟨rfl, _, _, (H.out.drewN q).step hS' hA', ⟨hS'.os, hS'.tape, hS'.output, hS'.size, hS'.block, hS'.fw, hS'.fb⟩⟩

set_option maxHeartbeats 1000000 in
/-- Alloc: what may be and does not fit. -/
theorem alloc_full (h : IsHp n₀ bh b vw vb w A) (k : Nat) (size : Int) (hk : 3 ≤ k) (hk8 : k ≤ 8) (h0 : 0 ≤ size) (hs : (A.limit : Int) < A.ws.length + size + 1) :
    Calls Tryz.prog 53 #[.pointer (some ⟨bh, 0, none⟩), .int .u8 k, .int .i64 size] w fun e w' => e = .returned (.tuple #[.int .i64 0, .int .i64 7]) ∧ ∃ q, w' = w.drewN q := by
  have h1 := there_in h
  have h2 := free_in h.ar
  clear h
  have hs' : (A.limit : Int) - A.ws.length ≤ size := by omega
  clear hs
  go_enter Tryz.func53, Tryz.ntmps53
  go_wp2_with (first
    | (go_at_call 40; refine h1.mono ?_; clear h1; rintro e w' ⟨rfl, rfl⟩)
    | (go_at_call 91; refine h2.mono ?_; clear h2; rintro e w' ⟨rfl, q, rfl⟩))
  go_ret2
  exact ⟨rfl, _, rfl⟩

set_option maxHeartbeats 1000000 in
/-- Alloc: what may not be. -/
theorem alloc_bad (h : IsHp n₀ bh b vw vb w A) (k : Nat) (size : Int) (hk : k < 256) (hs : k < 3 ∨ 8 < k ∨ size < 0) :
    Calls Tryz.prog 53 #[.pointer (some ⟨bh, 0, none⟩), .int .u8 k, .int .i64 size] w fun e w' => e = .returned (.tuple #[.int .i64 0, .int .i64 1]) ∧ w' = w := by
  have h1 := there_in h
  clear h
  by_cases c1 : k < 3
  · clear hs
    go_enter Tryz.func53, Tryz.ntmps53
    go_wp2_with (first
      | (go_at_call 40; refine h1.mono ?_; clear h1; rintro e w' ⟨rfl, rfl⟩))
    go_ret2
    exact ⟨rfl, rfl⟩
  · by_cases c2 : 8 < k
    · clear hs
      go_enter Tryz.func53, Tryz.ntmps53
      go_wp2_with (first
        | (go_at_call 40; refine h1.mono ?_; clear h1; rintro e w' ⟨rfl, rfl⟩))
      go_ret2
      exact ⟨rfl, rfl⟩
    · have c3 : size < 0 := by omega
      clear hs
      go_enter Tryz.func53, Tryz.ntmps53
      go_wp2_with (first
        | (go_at_call 40; refine h1.mono ?_; clear h1; rintro e w' ⟨rfl, rfl⟩))
      go_ret2
      exact ⟨rfl, rfl⟩

theorem hasA_lt (hl : A.bs.length = A.ws.length) {i : Int} (hi : hasA A i = true) : ∃ j : Nat, i = j ∧ j < A.ws.length ∧ A.bs[j]? = some true := by
  unfold hasA at hi
  simp only [Bool.and_eq_true, decide_eq_true_eq] at hi
  refine ⟨i.toNat, by omega, ?_, ?_⟩
  · rcases Nat.lt_or_ge i.toNat A.ws.length with h | h
    · exact h
    · rw [List.getD_eq_getElem?_getD, List.getElem?_eq_none (by omega)] at hi; simp at hi
  · have := hi.2
    rw [List.getD_eq_getElem?_getD] at this
    cases e : A.bs[i.toNat]? with
    | none => rw [e] at this; simp at this
    | some x => rw [e] at this; simp at this; rw [this]

set_option maxHeartbeats 1000000 in
/-- word: an object's word. -/
theorem word_ok (h : IsHp n₀ bh b vw vb w A) (hl : A.bs.length = A.ws.length) (j i : Nat) (x : Nat) (hj : hasA A j = true) (hx : A.ws[j]? = some x) (hi : i < fld x 0) (hin : j + 1 + i < A.ws.length) (g c : Nat) (hv : vw = .slice (some ⟨g, 0, none⟩) A.ws.length c) :
    Calls Tryz.prog 93 #[.pointer (some ⟨bh, 0, none⟩), .int .i64 j, .int .i64 i] w fun e w' => e = .returned (.tuple #[.pointer (some ⟨g, j + 1 + i, none⟩), .int .i64 0]) ∧ w' = w := by
  have h1 := find_yes h hl j hj
  have h2 := field_in h.ar j x 0 hx (by omega)
  have h3 := h.ar.c1
  have hle := h.ar.le
  have hlim := h.ar.lim
  have hfl := fld_lt x 0
  rw [hv] at h3
  clear h hl hj hx hv
  obtain ⟨y, hy⟩ : ∃ y, fld x 0 = y := ⟨_, rfl⟩
  rw [hy] at h2 hi hfl
  clear hy
  go_enter Tryz.func93, Tryz.ntmps93
  go_wp2_with (first
    | (go_at_call 109; refine h1.mono ?_; clear h1; rintro e w' ⟨rfl, rfl⟩)
    | (go_at_call 112; refine h2.mono ?_; clear h2; rintro e w' ⟨rfl, rfl⟩))
  go_ret2
  exact ⟨rfl, rfl⟩

set_option maxHeartbeats 1000000 in
/-- word: no object there. -/
theorem word_none (h : IsHp n₀ bh b vw vb w A) (hl : A.bs.length = A.ws.length) (j i : Int) (hj : hasA A j = false) :
    Calls Tryz.prog 93 #[.pointer (some ⟨bh, 0, none⟩), .int .i64 j, .int .i64 i] w fun e w' => e = .returned (.tuple #[.pointer none, .int .i64 1]) ∧ w' = w := by
  have h1 := find_no h hl j hj
  clear h hl hj
  go_enter Tryz.func93, Tryz.ntmps93
  go_wp2_with (first
    | (go_at_call 109; refine h1.mono ?_; clear h1; rintro e w' ⟨rfl, rfl⟩))
  go_ret2
  exact ⟨rfl, rfl⟩

set_option maxHeartbeats 1000000 in
/-- word: an object that has no such word. -/
theorem word_bad (h : IsHp n₀ bh b vw vb w A) (hl : A.bs.length = A.ws.length) (j : Nat) (i : Int) (x : Nat) (hj : hasA A j = true) (hx : A.ws[j]? = some x) (hi : i < 0 ∨ fld x 0 ≤ i) :
    Calls Tryz.prog 93 #[.pointer (some ⟨bh, 0, none⟩), .int .i64 j, .int .i64 i] w fun e w' => e = .returned (.tuple #[.pointer none, .int .i64 1]) ∧ w' = w := by
  have h1 := find_yes h hl j hj
  have h2 := field_in h.ar j x 0 hx (by omega)
  clear h hl hj hx
  obtain ⟨y, hy⟩ : ∃ y, fld x 0 = y := ⟨_, rfl⟩
  rw [hy] at h2 hi
  clear hy
  by_cases c1 : i < 0
  · clear hi
    go_enter Tryz.func93, Tryz.ntmps93
    go_wp2_with (first
      | (go_at_call 109; refine h1.mono ?_; clear h1; rintro e w' ⟨rfl, rfl⟩)
      | (go_at_call 112; refine h2.mono ?_; clear h2; rintro e w' ⟨rfl, rfl⟩))
    go_ret2
    exact ⟨rfl, rfl⟩
  · have c2 : (y : Int) ≤ i := by omega
    clear hi
    go_enter Tryz.func93, Tryz.ntmps93
    go_wp2_with (first
      | (go_at_call 109; refine h1.mono ?_; clear h1; rintro e w' ⟨rfl, rfl⟩)
      | (go_at_call 112; refine h2.mono ?_; clear h2; rintro e w' ⟨rfl, rfl⟩))
    go_ret2
    exact ⟨rfl, rfl⟩

end Go.Proofs.YtkombdkhodjckaaGreat

namespace Go.Proofs.YtkombdkhodjckaaGreat
open Go.RowKit

variable {n₀ bh b : Nat} {vw vb : Value} {w : World} {A : Ar}

set_option maxHeartbeats 1000000 in
theorem read_ok (h : IsHp n₀ bh b vw vb w A) (hl : A.bs.length = A.ws.length) (j i x y : Nat) (hj : hasA A j = true) (hx : A.ws[j]? = some x) (hi : i < fld x 0) (hy : A.ws[j + 1 + i]? = some y) :
    Calls Tryz.prog 115 #[.pointer (some ⟨bh, 0, none⟩), .int .i64 j, .int .i64 i] w fun e w' => e = .returned (.tuple #[.int .u64 y, .int .i64 0]) ∧ w' = w := by
  obtain ⟨g, c, hv, hcell, _⟩ := h.ar.word hy
  have h1 := word_ok h hl j i x hj hx hi (List.getElem?_eq_some_iff.1 hy).1 g c hv
  clear h hl hj hx hi hy hv
  go_enter Tryz.func115, Tryz.ntmps115
  go_wp2_with (first
    | (go_at_call 93; refine h1.mono ?_; clear h1; rintro e w' ⟨rfl, rfl⟩))
  go_ret2
  exact ⟨rfl, rfl⟩

/-- Does the object at a place have such a word? -/
def hasW (A : Ar) (j i : Int) : Bool := hasA A j && decide (0 ≤ i) && decide (i < fld (A.ws.getD j.toNat 0) 0)

theorem word_err (h : IsHp n₀ bh b vw vb w A) (hl : A.bs.length = A.ws.length) (j i : Int) (hb : hasW A j i = false) :
    Calls Tryz.prog 93 #[.pointer (some ⟨bh, 0, none⟩), .int .i64 j, .int .i64 i] w fun e w' => e = .returned (.tuple #[.pointer none, .int .i64 1]) ∧ w' = w := by
  cases hj : hasA A j with
  | false => exact word_none h hl j i hj
  | true =>
    obtain ⟨k, rfl, hk, _⟩ := hasA_lt hl hj
    refine word_bad h hl k i (A.ws.getD k 0) hj (by simp [List.getD, hk]) ?_
    unfold hasW at hb
    rw [hj] at hb
    simp at hb
    simp
    omega

set_option maxHeartbeats 1000000 in
theorem read_err (h : IsHp n₀ bh b vw vb w A) (hl : A.bs.length = A.ws.length) (j i : Int) (hb : hasW A j i = false) :
    Calls Tryz.prog 115 #[.pointer (some ⟨bh, 0, none⟩), .int .i64 j, .int .i64 i] w fun e w' => e = .returned (.tuple #[.int .u64 0, .int .i64 1]) ∧ w' = w := by
  have h1 := word_err h hl j i hb
  clear h hl hb
  go_enter Tryz.func115, Tryz.ntmps115
  go_wp2_with (first
    | (go_at_call 93; refine h1.mono ?_; clear h1; rintro e w' ⟨rfl, rfl⟩))
  go_ret2
  exact ⟨rfl, rfl⟩

set_option maxHeartbeats 1000000 in
theorem write_ok (h : IsHp n₀ bh b vw vb w A) (hl : A.bs.length = A.ws.length) (j i x v : Nat) (hj : hasA A j = true) (hx : A.ws[j]? = some x) (hi : i < fld x 0) (hin : j + 1 + i < A.ws.length) (hv64 : v < 18446744073709551616) :
    Calls Tryz.prog 54 #[.pointer (some ⟨bh, 0, none⟩), .int .i64 j, .int .i64 i, .int .u64 v] w fun e w' => e = .returned (.int .i64 0) ∧
      IsHp n₀ bh b vw vb w' { A with ws := A.ws.set (j + 1 + i) v } ∧ Step b vw vb w vw vb w' := by
  obtain ⟨g, c, hv, hcell, hfr⟩ := h.ar.word (i := j + 1 + i) (x := A.ws[j + 1 + i]) (by simp [hin])
  have h1 := word_ok h hl j i x hj hx hi hin g c hv
  obtain ⟨h2, h3⟩ := h.ar.setWord (i := j + 1 + i) hv hv64
  have H : Hid _ := And.intro (h.step h3 h2) h3
  clear h hl hj hx hi hv h2 h3
  obtain ⟨y, hy⟩ : ∃ y, A.ws[j + 1 + i] = y := ⟨_, rfl⟩
  rw [hy] at hcell
  clear hy
  go_enter Tryz.func54, Tryz.ntmps54
  go_wp2_with (first
    | (go_at_call 93; refine h1.mono ?_; clear h1; rintro e w' ⟨rfl, rfl⟩))
  go_ret
  exact ⟨rfl, H.out⟩

set_option maxHeartbeats 1000000 in
theorem write_err (h : IsHp n₀ bh b vw vb w A) (hl : A.bs.length = A.ws.length) (j i v : Int) (hb : hasW A j i = false) :
    Calls Tryz.prog 54 #[.pointer (some ⟨bh, 0, none⟩), .int .i64 j, .int .i64 i, .int .u64 v] w fun e w' => e = .returned (.int .i64 1) ∧ w' = w := by
  have h1 := word_err h hl j i hb
  clear h hl hb
  go_enter Tryz.func54, Tryz.ntmps54
  go_wp2_with (first
    | (go_at_call 93; refine h1.mono ?_; clear h1; rintro e w' ⟨rfl, rfl⟩))
  go_ret
  exact ⟨rfl, rfl⟩

set_option maxHeartbeats 1000000 in
theorem size_ok (h : IsHp n₀ bh b vw vb w A) (hl : A.bs.length = A.ws.length) (j x : Nat) (hj : hasA A j = true) (hx : A.ws[j]? = some x) :
    Calls Tryz.prog 98 #[.pointer (some ⟨bh, 0, none⟩), .int .i64 j] w fun e w' => e = .returned (.tuple #[.int .i64 (fld x 0), .int .i64 0]) ∧ w' = w := by
  have h1 := find_yes h hl j hj
  have h2 := field_in h.ar j x 0 hx (by omega)
  clear h hl hj hx
  go_enter Tryz.func98, Tryz.ntmps98
  go_wp2_with (first
    | (go_at_call 109; refine h1.mono ?_; clear h1; rintro e w' ⟨rfl, rfl⟩)
    | (go_at_call 112; refine h2.mono ?_; clear h2; rintro e w' ⟨rfl, rfl⟩))
  go_ret2
  exact ⟨rfl, rfl⟩

set_option maxHeartbeats 1000000 in
theorem size_err (h : IsHp n₀ bh b vw vb w A) (hl : A.bs.length = A.ws.length) (j : Int) (hj : hasA A j = false) :
    Calls Tryz.prog 98 #[.pointer (some ⟨bh, 0, none⟩), .int .i64 j] w fun e w' => e = .returned (.tuple #[.int .i64 0, .int .i64 1]) ∧ w' = w := by
  have h1 := find_no h hl j hj
  clear h hl hj
  go_enter Tryz.func98, Tryz.ntmps98
  go_wp2_with (first
    | (go_at_call 109; refine h1.mono ?_; clear h1; rintro e w' ⟨rfl, rfl⟩))
  go_ret2
  exact ⟨rfl, rfl⟩

end Go.Proofs.YtkombdkhodjckaaGreat
