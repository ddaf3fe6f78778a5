/- The chapter's answers, and alive. -/
import Derived.Test.YtampilfebmfhaaaGcAlive
import Derived.Test.YtampilfebmfhaaaSame
namespace Go.Proofs.Ytampilfebmfhaaa
set_option linter.unusedVariables false
set_option linter.unusedSimpArgs false
open Go.RowKit

variable {w : World}

def e0 : Ob := ⟨0, 3, [0, 0]⟩

def e3 : Ob := ⟨3, 8, [0, 0, 7, 11]⟩

def e8 : Ob := ⟨8, 4, [2, 4]⟩

def e11 : Ob := ⟨11, 7, [4, 8]⟩

def e14 : Ob := ⟨14, 3, [0]⟩

theorem exM_eq : exM = [e0, e3, e8, e11, e14] := rfl

theorem ex_links0 : links exM e0 = [] := rfl

theorem ex_links3 : links exM e3 = [⟨3, 11, 0⟩] := rfl

theorem ex_links8 : links exM e8 = [⟨1, 3, 1⟩] := rfl

theorem ex_links11 : links exM e11 = [⟨1, 8, 0⟩] := rfl

theorem ex_links14 : links exM e14 = [] := rfl

theorem ex_mem {o : Ob} (h : o ∈ exM) : o = e0 ∨ o = e3 ∨ o = e8 ∨ o = e11 ∨ o = e14 := by
  rw [exM_eq] at h
  simpa using h

/-- What a set of places that is closed has. -/
theorem ex_closed {vs : List Vl} {P : Nat → Prop} (h1 : ∀ v ∈ vs, Leads exM v.k v.n → P v.n.toNat) (h3 : P 3 → P 11) (h8 : P 8 → P 3) (h11 : P 11 → P 8) {p : Nat} (h : Rch exM vs p) : P p := by
  refine Rch.ind (P := P) ?_ ?_ h
  · intro v p hv hl e
    have := h1 v hv hl
    rwa [e] at this
  · intro o x ho hp hx
    rcases ex_mem ho with rfl | rfl | rfl | rfl | rfl
    · rw [ex_links0] at hx; simp at hx
    · rw [ex_links3] at hx; simp at hx; subst hx; exact h3 hp
    · rw [ex_links8] at hx; simp at hx; subst hx; exact h8 hp
    · rw [ex_links11] at hx; simp at hx; subst hx; exact h11 hp
    · rw [ex_links14] at hx; simp at hx

theorem ex_leads : Leads exM 4 8 ∧ Leads exM 7 11 ∧ Leads exM 3 14 ∧ ¬ Leads exM 3 8 := by decide

theorem ex_step3 {vs : List Vl} (h : Rch exM vs 3) : Rch exM vs 11 := Rch.step (o := e3) (x := ⟨3, 11, 0⟩) (by rw [exM_eq]; simp) h (by rw [ex_links3]; simp)

theorem ex_step8 {vs : List Vl} (h : Rch exM vs 8) : Rch exM vs 3 := Rch.step (o := e8) (x := ⟨1, 3, 1⟩) (by rw [exM_eq]; simp) h (by rw [ex_links8]; simp)

theorem ex_step11 {vs : List Vl} (h : Rch exM vs 11) : Rch exM vs 8 := Rch.step (o := e11) (x := ⟨1, 8, 0⟩) (by rw [exM_eq]; simp) h (by rw [ex_links11]; simp)

theorem ex_filter {f : Ob → Bool} {a b c d e : Bool} (h0 : f e0 = a) (h3 : f e3 = b) (h8 : f e8 = c) (h11 : f e11 = d) (h14 : f e14 = e) :
    exM.filter f = (if a then [e0] else []) ++ (if b then [e3] else []) ++ (if c then [e8] else []) ++ (if d then [e11] else []) ++ (if e then [e14] else []) := by
  rw [exM_eq]
  simp only [List.filter, h0, h3, h8, h11, h14]
  cases a <;> cases b <;> cases c <;> cases d <;> cases e <;> rfl

theorem bool_of {b : Bool} {P : Prop} (h : b = true ↔ P) (hp : P) : b = true := h.2 hp

theorem bool_not {b : Bool} {P : Prop} (h : b = true ↔ P) (hp : ¬ P) : b = false := by
  cases b
  · rfl
  · exact (hp (h.1 rfl)).elim

def exR1 : List Vl := [⟨4, 8⟩]

def exR2 : List Vl := [⟨7, 11⟩, ⟨2, 7⟩, ⟨3, 14⟩]

theorem ex_filter1 {f : Ob → Bool} (hf : ∀ o ∈ exM, f o = true ↔ Rch exM exR1 o.at_) : exM.filter f = [e3, e8, e11] := by
  have r8 : Rch exM exR1 8 := Rch.root (v := ⟨4, 8⟩) (by simp [exR1]) ex_leads.1 rfl
  have cl : ∀ {p}, Rch exM exR1 p → (p = 3 ∨ p = 8 ∨ p = 11) := fun h => ex_closed (P := fun p => p = 3 ∨ p = 8 ∨ p = 11) (fun v hv _ => by simp [exR1] at hv; subst hv; simp) (by simp) (by simp) (by simp) h
  rw [ex_filter (bool_not (hf e0 (by rw [exM_eq]; simp)) (fun h => by have := cl h; simp [e0] at this)) (bool_of (hf e3 (by rw [exM_eq]; simp)) (ex_step8 r8)) (bool_of (hf e8 (by rw [exM_eq]; simp)) r8) (bool_of (hf e11 (by rw [exM_eq]; simp)) (ex_step3 (ex_step8 r8))) (bool_not (hf e14 (by rw [exM_eq]; simp)) (fun h => by have := cl h; simp [e14] at this))]
  rfl

theorem ex_filter2 {f : Ob → Bool} (hf : ∀ o ∈ exM, f o = true ↔ Rch exM exR2 o.at_) : exM.filter f = [e3, e8, e11, e14] := by
  have r11 : Rch exM exR2 11 := Rch.root (v := ⟨7, 11⟩) (by simp [exR2]) ex_leads.2.1 rfl
  have r14 : Rch exM exR2 14 := Rch.root (v := ⟨3, 14⟩) (by simp [exR2]) ex_leads.2.2.1 rfl
  have cl : ∀ {p}, Rch exM exR2 p → (p = 3 ∨ p = 8 ∨ p = 11 ∨ p = 14) := fun h => ex_closed (P := fun p => p = 3 ∨ p = 8 ∨ p = 11 ∨ p = 14) (fun v hv hl => by
    simp [exR2] at hv
    rcases hv with rfl | rfl | rfl
    · simp
    · exact absurd hl.1 (by decide)
    · simp) (by simp) (by simp) (by simp) h
  rw [ex_filter (bool_not (hf e0 (by rw [exM_eq]; simp)) (fun h => by have := cl h; simp [e0] at this)) (bool_of (hf e3 (by rw [exM_eq]; simp)) (ex_step8 (ex_step11 r11))) (bool_of (hf e8 (by rw [exM_eq]; simp)) (ex_step11 r11)) (bool_of (hf e11 (by rw [exM_eq]; simp)) r11) (bool_of (hf e14 (by rw [exM_eq]; simp)) r14)]
  rfl

theorem ex_may1 : May exM exR1 := by
  intro v hv
  simp [exR1] at hv
  subst hv
  exact ⟨by simp, fun _ => ex_leads.1⟩

theorem ex_may2 : May exM exR2 := by
  intro v hv
  simp [exR2] at hv
  rcases hv with rfl | rfl | rfl
  · exact ⟨by simp, fun _ => ex_leads.2.1⟩
  · exact ⟨by simp, fun h => absurd h (by decide)⟩
  · exact ⟨by simp, fun _ => ex_leads.2.2.1⟩

theorem ex_may3 : ¬ May exM [⟨3, 8⟩] := fun h => ex_leads.2.2.2 ((h ⟨3, 8⟩ (by simp)).2 (by simp))

theorem ex_fin : fin exM [e3, e8, e11, e14] = [⟨0, 8, [0, 0, 7, 8]⟩, ⟨5, 4, [2, 1]⟩, ⟨8, 7, [4, 5]⟩, ⟨11, 3, [0]⟩] := rfl

theorem ex_roots : exR2.map (newRoot (dst 0 [e3, e8, e11, e14])) = [⟨7, 8⟩, ⟨2, 7⟩, ⟨3, 11⟩] := rfl

variable {n₀ bh b : Nat} {vw vb : Value}

theorem reach_ex1 (h : Hp n₀ bh b vw vb w 30 16 exM) {p : Option Addr} (c : Nat) (hv : Vals w p exR1) :
    Calls Try.prog 8 #[.pointer (some ⟨bh, 0, none⟩), .slice p 1 c] w fun e w' => ∃ q c', e = .returned (.tuple #[.slice q 3 c', .int .i64 11, .int .i64 0]) ∧ w'.ownsRow w.heap.size 2 1 (.slice q 3 c') 3 (([3, 8, 11] : List Nat).map pv) ∧ Below w.heap.size w w' := by
  refine (reach_in h (by omega) (vs := exR1) c hv (by simp [exR1]) (by simp [exR1])).mono ?_
  rintro e w' ⟨hB, ⟨hn, _⟩ | ⟨_, f, q, c', hf, he, hrow⟩⟩
  · exact (hn ex_may1).elim
  · rw [ex_filter1 hf] at he hrow
    exact ⟨q, c', he, hrow, hB⟩

theorem reach_ex3 (h : Hp n₀ bh b vw vb w 30 16 exM) {p : Option Addr} (c : Nat) (hv : Vals w p [⟨3, 8⟩]) :
    Calls Try.prog 8 #[.pointer (some ⟨bh, 0, none⟩), .slice p 1 c] w fun e w' => e = .returned (.tuple #[.slice none 0 0, .int .i64 0, .int .i64 1]) ∧ Below w.heap.size w w' := by
  refine (reach_in h (by omega) (vs := [⟨3, 8⟩]) c hv (by simp) (by simp)).mono ?_
  rintro e w' ⟨hB, ⟨_, he⟩ | ⟨hm, _⟩⟩
  · exact ⟨he, hB⟩
  · exact (ex_may3 hm).elim

theorem collect_ex (h : Hp n₀ bh b vw vb w 30 16 exM) {p : Option Addr} (c : Nat) (hv : Vals w p exR2) (hp : p ≠ none) (hst : ∀ vw' vb' w', Step b vw vb w vw' vb' w' → Vals w' p exR2) :
    Calls Try.prog 9 #[.pointer (some ⟨bh, 0, none⟩), .slice p 3 c] w fun e w' => ∃ v vw' vb', e = .returned (.tuple #[v, .int .i64 0]) ∧ OwnVals w.heap.size v [⟨7, 8⟩, ⟨2, 7⟩, ⟨3, 11⟩] w' ∧
      Hp n₀ bh b vw' vb' w' 30 13 ([] ++ ⟨0, 8, [0, 0, 7, 8]⟩ :: [⟨5, 4, [2, 1]⟩, ⟨8, 7, [4, 5]⟩, ⟨11, 3, [0]⟩]) ∧ Step b vw vb w vw' vb' w' := by
  refine (collect_ok h (by omega) (vs := exR2) c hv (fun e => (hp e).elim) (by simp [exR2]) (by simp [exR2]) hst ex_may2).mono ?_
  rintro e w' ⟨v, he, f, vw', vb', hre, hown, hhp, hS⟩
  rw [ex_filter2 hre.iff] at hown hhp
  rw [ex_roots] at hown
  rw [ex_fin] at hhp
  exact ⟨v, vw', vb', he, hown, hhp, hS⟩

set_option maxRecDepth 20000 in
set_option maxHeartbeats 4000000 in
theorem alive_in (w : World) : Calls Try.prog 5 #[] w fun e w' => e = .returned (.bool true) ∧ Below w.heap.size w w' := by
  have a0 := example_in w
  go_enter Try.func5, Try.ntmps5
  go_wp2_with (first
    | (go_at_call 15; refine a0.mono ?_; clear a0; rintro e w1 ⟨bh, b, vw, vb, rfl, hp1, hB1⟩
       have q1 := below1 w1 (.cells #[.int .u8 4, .int .i64 8] 45)
       have v1 : Vals (w1.alloc (.cells #[.int .u8 4, .int .i64 8] 45)) (some ⟨w1.heap.size, 0, none⟩) exR1 := vals_block (heap_alloc_new w1 _)
       have a1 := reach_ex1 (hp1.below q1) 1 v1)
    | (go_at_call 8; refine a1.mono ?_; clear a1; rintro e w2 ⟨q, c, rfl, hrow, hB2⟩
       have hB12 := q1.trans (hB2.mono q1.size)
       have q2 := below1 w2 (.cells #[.int .u8 3, .int .i64 8] 45)
       have v2 : Vals (w2.alloc (.cells #[.int .u8 3, .int .i64 8] 45)) (some ⟨w2.heap.size, 0, none⟩) [⟨3, 8⟩] := vals_block (heap_alloc_new w2 _)
       have a2 := reach_ex3 ((hp1.below hB12).below q2) 1 v2)
    | (go_at_call 8; refine a2.mono ?_; clear a2; rintro e w3 ⟨rfl, hB3⟩
       have hB23 := q2.trans (hB3.mono q2.size)
       have hB13 := hB12.trans (hB23.mono hB12.size)
       have q3 := below1 w3 (.cells #[.int .u8 7, .int .i64 11, .int .u8 2, .int .i64 7, .int .u8 3, .int .i64 14] 45)
       have b3 := heap_alloc_new w3 (.cells #[.int .u8 7, .int .i64 11, .int .u8 2, .int .i64 7, .int .u8 3, .int .i64 14] 45)
       have v3 : Vals (w3.alloc (.cells #[.int .u8 7, .int .i64 11, .int .u8 2, .int .i64 7, .int .u8 3, .int .i64 14] 45)) (some ⟨w3.heap.size, 0, none⟩) exR2 := vals_block b3
       have hp3 := (hp1.below hB13).below q3
       have a3 := collect_ex hp3 3 v3 (by simp) (fun vw' vb' w' hS => v3.kept (fun b0 off e => by cases e; exact hp3.stays hS b3 (fun cur t e => by cases e; decide)))
       have hrow3 := row_kept hrow (fun k hk => (hB23.block k (hrow.lt k hk).2)))
    | (go_at_call 9; refine a3.mono ?_; clear a3; rintro e w4 ⟨v4, vw4, vb4, rfl, hown4, hp4, hS4⟩
       obtain ⟨p4, c4, rfl⟩ := hown4.form
       have a4 := readM hp4 3 8 rfl
       have q4 := below1 w4 (.cells #[.int .i64 3, .int .i64 8, .int .i64 11] 2)
       have hrow4 := (hp3.row hS4 (hrow3.alloc _) (by decide)).alloc (.cells #[.int .i64 3, .int .i64 8, .int .i64 11] 2)
       have a5 := same_places (n := 3) (L := [3, 8, 11]) rfl (by omega) hrow4 (row_block (xs := ([3, 8, 11] : List Nat).map pv) (heap_alloc_new w4 _) (by simp)))
    | (go_at_call 14; refine a4.mono ?_; clear a4; rintro e w' ⟨rfl, rfl⟩)
    | (go_at_call 10; refine a5.mono ?_; clear a5; rintro e w5 ⟨rfl, hB5⟩
       have hB45 := q4.trans (hB5.mono q4.size)
       have q5 := below1 w5 (.cells #[.int .u8 7, .int .i64 8, .int .u8 2, .int .i64 7, .int .u8 3, .int .i64 11] 45)
       have v5 : Vals (w5.alloc (.cells #[.int .u8 7, .int .i64 8, .int .u8 2, .int .i64 7, .int .u8 3, .int .i64 11] 45)) (some ⟨w5.heap.size, 0, none⟩) [⟨7, 8⟩, ⟨2, 7⟩, ⟨3, 11⟩] := vals_block (heap_alloc_new w5 _)
       have a6 := same_vals (n := 3) (c1 := c4) (c2 := 3) rfl (by omega) ((hown4.vals.below hB45).below q5) v5)
    | (go_at_call 13; refine a6.mono ?_; clear a6; rintro e w6 ⟨rfl, hB6⟩
       have hB56 := q5.trans (hB6.mono q5.size)
       have hB46 := hB45.trans (hB56.mono hB45.size)
       have a7 := usedM (hp4.below hB46))
    | (go_at_call 12; refine a7.mono ?_; clear a7; rintro e w7 ⟨rfl, rfl⟩))
  go_ret
  exact ⟨rfl, ((hB1.trans (hB13.mono hB1.size)).trans ((q3.mono (hB1.trans (hB13.mono hB1.size)).size))).trans ((hp3.stepBelow hS4).trans (hB46.mono hp4.lt))⟩

end Go.Proofs.Ytampilfebmfhaaa
