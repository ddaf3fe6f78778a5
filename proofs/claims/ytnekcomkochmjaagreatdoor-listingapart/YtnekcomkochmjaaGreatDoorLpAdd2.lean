/- Many rows of one's own at once, in blocks apart; a program that is being built. -/
import Derived.Test.YtnekcomkochmjaaGreatDoorLpKeep
import Derived.Test.YtnekcomkochmjaaGreatDoorLpHead
import Derived.Test.YtnekcomkochmjaaGreatDoorVfFns
import Derived.Test.YtnekcomkochmjaaGreatDoorLpIns
namespace Go.Proofs.YtnekcomkochmjaaGreatDoor
set_option linter.unusedVariables false
set_option linter.unusedSimpArgs false
open Go.RowKit

namespace Lp
open Lk

variable {w : World}

/-- A row of one's own. -/
structure RowD where
  e : TypeId
  k : Nat
  v : Value
  n : Nat
  xs : List Value

def RowD.off (a b : RowD) : Prop := ∀ q, a.v.ownBlock = some q → b.v.ownBlock ≠ some q

/-- Rows in blocks apart. -/
structure RowsOn (base : Nat) (w : World) (R : List RowD) : Prop where
  on : ∀ r ∈ R, w.ownsRow base r.e r.k r.v r.n r.xs
  apart : R.Pairwise RowD.off

theorem own_kept {w' : World} {base e size : Nat} {v : Value} {n : Nat} {xs : List Value} (h : w.ownsRow base e size v n xs) (hk : ∀ k, v.ownBlock = some k → w'.heap[k]? = w.heap[k]?) : w'.ownsRow base e size v n xs := by
  refine ⟨h.1, ?_⟩
  rcases h.2 with hn | ⟨g, cap, cur, rfl, hb, hgg, rest⟩
  · exact .inl hn
  · exact .inr ⟨g, cap, cur, rfl, hb, by rw [hk g rfl]; exact hgg, rest⟩

theorem RowsOn.same {base : Nat} {R : List RowD} (h : RowsOn base w R) {w' : World} (hk : ∀ r ∈ R, ∀ q, r.v.ownBlock = some q → w'.heap[q]? = w.heap[q]?) : RowsOn base w' R :=
  ⟨fun r hr => own_kept (h.on r hr) (hk r hr), h.apart⟩

theorem RowsOn.below {base : Nat} {R : List RowD} (h : RowsOn base w R) {w' : World} (hB : Below w.heap.size w w') : RowsOn base w' R :=
  h.same fun r hr q hq => hB.block q ((h.on r hr).lt q hq).2

theorem RowsOn.rst {base b : Nat} {R : List RowD} (h : RowsOn base w R) {w' : World} (hr : Rst b w w') (hf : ∀ r ∈ R, r.v.ownBlock ≠ some b) : RowsOn base w' R :=
  h.same fun r hr' q hq => hr.block q ((h.on r hr').lt q hq).2 (by rintro rfl; exact hf r hr' hq)

/-- One row grows: where it lay, or in a block of its own behind all. -/
theorem RowsOn.grow {base : Nat} {A B : List RowD} {r : RowD} (h : RowsOn base w (A ++ r :: B)) {w' : World} {v' : Value} {n' : Nat} {xs' : List Value}
    (hown : w'.ownsRow base r.e r.k v' n' xs') (hat : v'.ownBlock = r.v.ownBlock ∨ ∀ g, v'.ownBlock = some g → w.heap.size ≤ g)
    (hk : ∀ q, q < w.heap.size → some q ≠ r.v.ownBlock → w'.heap[q]? = w.heap[q]?) : RowsOn base w' (A ++ (⟨r.e, r.k, v', n', xs'⟩ : RowD) :: B) := by
  obtain ⟨hA, hrB, hAB⟩ := List.pairwise_append.1 h.apart
  obtain ⟨hr, hB⟩ := List.pairwise_cons.1 hrB
  have hltA : ∀ a ∈ A, ∀ q, a.v.ownBlock = some q → q < w.heap.size := fun a ha q hq => ((h.on a (by simp [ha])).lt q hq).2
  have hltB : ∀ a ∈ B, ∀ q, a.v.ownBlock = some q → q < w.heap.size := fun a ha q hq => ((h.on a (by simp [ha])).lt q hq).2
  refine ⟨fun a ha => ?_, List.pairwise_append.2 ⟨hA, List.pairwise_cons.2 ⟨fun b hb q hq => ?_, hB⟩, fun a ha b hb q hq => ?_⟩⟩
  · rcases List.mem_append.1 ha with ha | ha
    · refine own_kept (h.on a (by simp [ha])) fun q hq => hk q (hltA a ha q hq) fun e => ?_
      exact hAB a ha r (by simp) q hq e.symm
    · rcases List.mem_cons.1 ha with rfl | ha
      · exact hown
      · refine own_kept (h.on a (by simp [ha])) fun q hq => hk q (hltB a ha q hq) fun e => ?_
        exact hr a ha q e.symm hq
  · intro e
    rcases hat with h1 | h1
    · exact hr b hb q (h1 ▸ hq) e
    · have := h1 q hq
      have := hltB b hb q e
      omega
  · rcases List.mem_cons.1 hb with rfl | hb
    · intro e
      rcases hat with h1 | h1
      · exact hAB a ha r (by simp) q hq (h1 ▸ e)
      · have := h1 q e
        have := hltA a ha q hq
        omega
    · exact hAB a ha b (by simp [hb]) q hq

/-- One cell of a row is set. -/
theorem row_setk {base e k n g c j : Nat} {xs : List Value} {x : Value} (h : w.ownsRow base e k (.slice (some ⟨g, 0, none⟩) n c) n xs) (hj : j < n * k) : (w.setCell ⟨g, j, none⟩ x).ownsRow base e k (.slice (some ⟨g, 0, none⟩) n c) n (xs.set j x) := by
  obtain ⟨h0, h1⟩ := h
  refine ⟨by simpa using h0, ?_⟩
  rcases h1 with ⟨h1, _⟩ | ⟨g', cap, cur, e1, hb, hg, a, b, d, f⟩
  · cases h1
  · cases e1
    refine .inr ⟨g, c, cur.set! j x, rfl, hb, heap_setCell_same w g j cur e x hg, a, b, by simpa using d, ?_⟩
    rw [← f]
    simp [List.take_set]

theorem RowsOn.set {base : Nat} {A B : List RowD} {e k n g c j : Nat} {xs : List Value} {x : Value} (h : RowsOn base w (A ++ (⟨e, k, .slice (some ⟨g, 0, none⟩) n c, n, xs⟩ : RowD) :: B)) (hj : j < n * k) :
    RowsOn base (w.setCell ⟨g, j, none⟩ x) (A ++ (⟨e, k, .slice (some ⟨g, 0, none⟩) n c, n, xs.set j x⟩ : RowD) :: B) :=
  h.grow (row_setk (h.on _ (by simp)) hj) (.inl rfl) fun q hq hne => by
    rw [heap_setCell_other]
    rintro rfl
    exact hne rfl

end Lp

end Go.Proofs.YtnekcomkochmjaaGreatDoor

namespace Go.Proofs.YtnekcomkochmjaaGreatDoor
set_option linter.unusedVariables false
set_option linter.unusedSimpArgs false
open Go.RowKit

namespace Lp
open Lk

variable {w : World}

/-- The rows of a function's lists. -/
def five (x : Ft) : List RowD :=
  [⟨72, 2, .slice x.s.qc x.f.caps.length x.s.cc, x.f.caps.length, rowC capC x.f.caps⟩, ⟨75, 3, .slice x.s.qk x.f.consts.length x.s.ck, x.f.consts.length, rowC conC x.f.consts⟩,
   ⟨38, 2, .slice x.s.qi x.f.code.length x.s.ci, x.f.code.length, rowC insC x.f.code⟩, ⟨3, 1, .slice x.s.ql x.f.lines.length x.s.cl, x.f.lines.length, rowC linC x.f.lines⟩,
   ⟨78, 4, .slice x.s.qh x.f.hs.length x.s.ch, x.f.hs.length, rowC hanC x.f.hs⟩]

/-- All rows of a program. -/
def allR (v : Value) (ts : List Ft) : List RowD := ⟨45, 8, v, ts.length, rowC ftC ts⟩ :: ts.flatMap five

theorem rowAt_own {α : Type} {T : TypeId} {f : α → List Value} {k : Nat} {base c : Nat} {p : Option Addr} {l : List α} (hf : ∀ x, (f x).length = k) (h : w.ownsRow base T k (.slice p l.length c) l.length (rowC f l)) : RowAt f k w p l := by
  intro j x hj
  have hlt := (List.getElem?_eq_some_iff.1 hj).1
  rcases h.2 with ⟨_, h0⟩ | ⟨g, cap, cur, e, _⟩
  · omega
  · cases e
    refine ⟨g, 0, rfl, (World.ownsRow.lt h g rfl).2, fun i u hu => ?_⟩
    have hi : i < k := by rw [← hf x]; exact (List.getElem?_eq_some_iff.1 hu).1
    have h1 := rowC_get hf l j x [] hj i hi
    rw [List.append_nil] at h1
    have h2 := h.cells (g := g) rfl (j * k + i) u (h1.trans hu)
    rwa [show (⟨g, 0, none⟩ : Addr).add (j * k + i) = ⟨g, 0 + j * k + i, none⟩ by unfold Addr.add; split <;> simp_all] at h2

theorem RowsOn.isFns {base c : Nat} {p : Option Addr} {ts : List Ft} (h : RowsOn base w (allR (.slice p ts.length c) ts)) : IsFns w p (ts.map Ft.f) := by
  intro j f hj
  rw [List.getElem?_map] at hj
  cases hx : ts[j]? with
  | none => rw [hx] at hj; simp at hj
  | some x =>
    rw [hx] at hj; simp at hj; subst hj
    have hrow := h.on ⟨45, 8, .slice p ts.length c, ts.length, rowC ftC ts⟩ (by simp [allR])
    obtain ⟨b0, off, e, hlt, h1⟩ := rowAt_own ftC_len hrow j x hx
    have hm : ∀ r ∈ five x, w.ownsRow base r.e r.k r.v r.n r.xs := fun r hr => h.on r (by
      simp only [allR, List.mem_cons, List.mem_flatMap]
      exact .inr ⟨x, List.mem_of_getElem? hx, hr⟩)
    have k0 := hm _ (by unfold five; exact List.mem_cons_self)
    have k1 := hm _ (by unfold five; exact List.mem_cons_of_mem _ List.mem_cons_self)
    have k2 := hm _ (by unfold five; exact List.mem_cons_of_mem _ (List.mem_cons_of_mem _ List.mem_cons_self))
    have k3 := hm _ (by unfold five; exact List.mem_cons_of_mem _ (List.mem_cons_of_mem _ (List.mem_cons_of_mem _ List.mem_cons_self)))
    have k4 := hm _ (by unfold five; exact List.mem_cons_of_mem _ (List.mem_cons_of_mem _ (List.mem_cons_of_mem _ (List.mem_cons_of_mem _ List.mem_cons_self))))
    exact ⟨b0, off, x.s, e, hlt, h1, rowAt_own (fun _ => rfl) k0, rowAt_own (fun _ => rfl) k1, rowAt_own (fun _ => rfl) k2, rowAt_own (fun _ => rfl) k3, rowAt_own (fun _ => rfl) k4⟩

/-- A list of the last function grows, and its cell takes it. -/
theorem RowsOn.last {base g c j : Nat} {init : List Ft} {t t' : Ft} {A B : List RowD} {r : RowD} {v' : Value} {n' : Nat} {xs' : List Value} {w' : World}
    (h : RowsOn base w (allR (.slice (some ⟨g, 0, none⟩) (init.length + 1) c) (init ++ [t]))) (e1 : five t = A ++ r :: B) (e2 : five t' = A ++ (⟨r.e, r.k, v', n', xs'⟩ : RowD) :: B) (e3 : ftC t' = (ftC t).set j v') (hj : j < 8)
    (hown : w'.ownsRow base r.e r.k v' n' xs') (hat : v'.ownBlock = r.v.ownBlock ∨ ∀ g, v'.ownBlock = some g → w.heap.size ≤ g)
    (hk : ∀ q, q < w.heap.size → some q ≠ r.v.ownBlock → w'.heap[q]? = w.heap[q]?) :
    RowsOn base (w'.setCell ⟨g, init.length * 8 + j, none⟩ v') (allR (.slice (some ⟨g, 0, none⟩) (init.length + 1) c) (init ++ [t'])) := by
  have hl : ∀ x : Ft, (init ++ [x]).length = init.length + 1 := fun x => by simp
  have a1 : allR (.slice (some ⟨g, 0, none⟩) (init.length + 1) c) (init ++ [t]) = ((⟨45, 8, .slice (some ⟨g, 0, none⟩) (init.length + 1) c, init.length + 1, rowC ftC (init ++ [t])⟩ : RowD) :: (init.flatMap five ++ A)) ++ r :: B := by
    simp [allR, e1]
  rw [a1] at h
  have h2 := h.grow hown hat hk
  have h3 := RowsOn.set (A := []) (B := init.flatMap five ++ A ++ (⟨r.e, r.k, v', n', xs'⟩ : RowD) :: B) (x := v') (j := init.length * 8 + j) (by simpa using h2) (by omega)
  have a2 : (rowC ftC (init ++ [t])).set (init.length * 8 + j) v' = rowC ftC (init ++ [t']) := by
    rw [rowC_append, rowC_append, rowC_one, rowC_one, e3, List.set_append_right _ _ (by rw [rowC_len ftC_len]; omega), rowC_len ftC_len]
    congr 2
    omega
  rw [a2] at h3
  have a3 : allR (.slice (some ⟨g, 0, none⟩) (init.length + 1) c) (init ++ [t']) = (⟨45, 8, .slice (some ⟨g, 0, none⟩) (init.length + 1) c, init.length + 1, rowC ftC (init ++ [t'])⟩ : RowD) :: (init.flatMap five ++ A ++ (⟨r.e, r.k, v', n', xs'⟩ : RowD) :: B) := by
    simp [allR, e2]
  rw [a3]
  exact h3

/-- A function of which nothing but its first line is told. -/
def freshFt (s : ByteArray) (x y : Int) : Ft := ⟨⟨s, x, y, [], [], [], [], []⟩, ⟨none, 0, none, 0, none, 0, none, 0, none, 0⟩⟩

theorem RowsOn.fresh {base : Nat} {R : List RowD} (h : RowsOn base w R) (s : ByteArray) (x y : Int) : RowsOn base w (R ++ five (freshFt s x y)) := by
  refine ⟨fun r hr => ?_, List.pairwise_append.2 ⟨h.apart, ?_, fun a _ b hb q _ e => ?_⟩⟩
  · rcases List.mem_append.1 hr with hr | hr
    · exact h.on r hr
    · simp only [five, freshFt, List.mem_cons, List.not_mem_nil, or_false] at hr
      rcases hr with rfl | rfl | rfl | rfl | rfl <;> exact World.ownsRow_nil _ _ _ _
  · simp [five, freshFt, RowD.off, Value.ownBlock]
  · simp only [five, freshFt, List.mem_cons, List.not_mem_nil, or_false] at hb
    rcases hb with rfl | rfl | rfl | rfl | rfl <;> simp [Value.ownBlock] at e

/-- A function more. -/
theorem RowsOn.fn {base n : Nat} {v v' : Value} {ts : List Ft} {w' : World} (h : RowsOn base w (allR v ts)) (s : ByteArray) (x y : Int)
    (hown : w'.ownsRow base 45 8 v' (ts.length + 1) (rowC ftC ts ++ ftC (freshFt s x y))) (hat : v'.ownBlock = v.ownBlock ∨ ∀ g, v'.ownBlock = some g → w.heap.size ≤ g)
    (hk : ∀ q, q < w.heap.size → some q ≠ v.ownBlock → w'.heap[q]? = w.heap[q]?) : RowsOn base w' (allR v' (ts ++ [freshFt s x y])) := by
  have h2 := (RowsOn.grow (A := []) (B := ts.flatMap five) (r := ⟨45, 8, v, ts.length, rowC ftC ts⟩) (by simpa [allR] using h) hown hat hk).fresh s x y
  have e : allR v' (ts ++ [freshFt s x y]) = [] ++ (⟨45, 8, v', ts.length + 1, rowC ftC ts ++ ftC (freshFt s x y)⟩ : RowD) :: ts.flatMap five ++ five (freshFt s x y) := by
    simp [allR, rowC_append, rowC_one]
  rw [e]
  exact h2

end Lp

end Go.Proofs.YtnekcomkochmjaaGreatDoor

namespace Go.Proofs.YtnekcomkochmjaaGreatDoor
set_option linter.unusedVariables false
set_option linter.unusedSimpArgs false
open Go.RowKit

namespace Lp
open Lk

variable {w : World}

/-- A list with one more behind it, if it may take one. -/
def more {α : Type} (limit : Nat) (l : List α) (x : α) : List α := if l.length ≤ limit then l ++ [x] else l

theorem more_len {α : Type} {limit : Nat} {l : List α} {x : α} (h : l.length ≤ limit + 1) : (more limit l x).length ≤ limit + 1 := by
  unfold more
  split
  · simp; omega
  · exact h

/-- What keep hands back. -/
def Grown (base : Nat) (e : TypeId) (k : Nat) (v : Value) (n : Nat) (xs : List Value) (w : World) (E : Ending) (w' : World) : Prop :=
  ∃ p c, E = .returned (.slice p n c) ∧ w'.ownsRow base e k (.slice p n c) n xs ∧ ((Value.slice p n c).ownBlock = v.ownBlock ∨ ∀ g, (Value.slice p n c).ownBlock = some g → w.heap.size ≤ g) ∧ w'.os = w.os ∧ w'.tape = w.tape ∧ w'.output = w.output ∧ w.heap.size ≤ w'.heap.size ∧ ∀ q, q < w.heap.size → some q ≠ v.ownBlock → w'.heap[q]? = w.heap[q]?

theorem grown_in {α : Type} (f : α → List Value) {base k limit c : Nat} {e : TypeId} {q : Option Addr} {l : List α} {x : α} {F : FuncId} {args : Array Value}
    (h : w.ownsRow base e k (.slice q l.length c) l.length (rowC f l))
    (hm : l.length ≤ limit → Calls Tryz.prog F args w fun E w' => Kept base e k (.slice q l.length c) (l.length + 1) (rowC f l ++ f x) w E w')
    (hf : limit < l.length → Calls Tryz.prog F args w fun E w' => E = .returned (.slice q l.length c) ∧ Below w.heap.size w w') :
    Calls Tryz.prog F args w fun E w' => Grown base e k (.slice q l.length c) (more limit l x).length (rowC f (more limit l x)) w E w' := by
  unfold more
  by_cases hl : l.length ≤ limit
  · rw [if_pos hl]
    refine (hm hl).mono ?_
    rintro E w' ⟨g, c', rfl, hown, hat, h1, h2, h3, h4, h5⟩
    have e1 : (l ++ [x]).length = l.length + 1 := by simp
    rw [e1, rowC_append, rowC_one]
    refine ⟨some ⟨g, 0, none⟩, c', rfl, hown, ?_, h1, h2, h3, h4, h5⟩
    rcases hat with h6 | h6
    · left; rw [h6]; rfl
    · right; intro g' hg'
      simp [Value.ownBlock] at hg'
      omega
  · rw [if_neg hl]
    refine (hf (by omega)).mono ?_
    rintro E w' ⟨rfl, hB⟩
    exact ⟨q, c, rfl, own_kept h fun j hj => hB.block j (h.lt j hj).2, .inl rfl, hB.os, hB.tape, hB.output, hB.size, fun j hj _ => hB.block j hj⟩

theorem keepCap_in {base limit c : Nat} {q : Option Addr} {l : List Cp} (x : Cp) (h : w.ownsRow base 72 2 (.slice q l.length c) l.length (rowC capC l)) (hb : base ≤ w.heap.size) (hl : l.length ≤ 1048576) (hl2 : limit ≤ 1048576) :
    Calls Tryz.prog 63 #[.slice q l.length c, .agg #[.bool x.up, .int .i64 x.n], .int .i64 limit] w fun E w' => Grown base 72 2 (.slice q l.length c) (more limit l x).length (rowC capC (more limit l x)) w E w' :=
  grown_in capC h (fun h1 => keepCap_more h hb x.up x.n h1 hl2) (fun h1 => keepCap_full q c x.up x.n h1 hl w)

theorem keepConst_in {base limit c : Nat} {q : Option Addr} {l : List Ck} (x : Ck) (h : w.ownsRow base 75 3 (.slice q l.length c) l.length (rowC conC l)) (hb : base ≤ w.heap.size) (hl : l.length ≤ 1048576) (hl2 : limit ≤ 1048576) :
    Calls Tryz.prog 64 #[.slice q l.length c, .agg #[.int .u8 x.k, .int .i64 x.n, .string x.s], .int .i64 limit] w fun E w' => Grown base 75 3 (.slice q l.length c) (more limit l x).length (rowC conC (more limit l x)) w E w' :=
  grown_in conC h (fun h1 => keepConst_more h hb x.k x.n x.s h1 hl2) (fun h1 => keepConst_full q c x.k x.n x.s h1 hl w)

theorem keepIns_in {base limit c : Nat} {q : Option Addr} {l : List In} (x : In) (h : w.ownsRow base 38 2 (.slice q l.length c) l.length (rowC insC l)) (hb : base ≤ w.heap.size) (hl : l.length ≤ 1048576) (hl2 : limit ≤ 1048576) :
    Calls Tryz.prog 68 #[.slice q l.length c, .agg #[.int .u8 x.op, .int .i64 x.a], .int .i64 limit] w fun E w' => Grown base 38 2 (.slice q l.length c) (more limit l x).length (rowC insC (more limit l x)) w E w' :=
  grown_in insC h (fun h1 => keepIns_more h hb x.op x.a h1 hl2) (fun h1 => keepIns_full q c x.op x.a h1 hl w)

theorem keepInt_in {base limit c : Nat} {q : Option Addr} {l : List Int} (x : Int) (h : w.ownsRow base 3 1 (.slice q l.length c) l.length (rowC linC l)) (hb : base ≤ w.heap.size) (hl : l.length ≤ 1048576) (hl2 : limit ≤ 1048576) :
    Calls Tryz.prog 66 #[.slice q l.length c, .int .i64 x, .int .i64 limit] w fun E w' => Grown base 3 1 (.slice q l.length c) (more limit l x).length (rowC linC (more limit l x)) w E w' :=
  grown_in linC h (fun h1 => keepInt_more h hb x h1 hl2) (fun h1 => keepInt_full q c x h1 hl w)

theorem keepHn_in {base limit c : Nat} {q : Option Addr} {l : List Hn} (x : Hn) (h : w.ownsRow base 78 4 (.slice q l.length c) l.length (rowC hanC l)) (hb : base ≤ w.heap.size) (hl : l.length ≤ 1048576) (hl2 : limit ≤ 1048576) :
    Calls Tryz.prog 70 #[.slice q l.length c, .agg #[.int .i64 x.fr, .int .i64 x.to, .int .i64 x.at_, .int .i64 x.deep], .int .i64 limit] w fun E w' => Grown base 78 4 (.slice q l.length c) (more limit l x).length (rowC hanC (more limit l x)) w E w' :=
  grown_in hanC h (fun h1 => keepHn_more h hb x.fr x.to x.at_ x.deep h1 hl2) (fun h1 => keepHn_full q c x.fr x.to x.at_ x.deep h1 hl w)

end Lp

end Go.Proofs.YtnekcomkochmjaaGreatDoor

namespace Go.Proofs.YtnekcomkochmjaaGreatDoor
set_option linter.unusedVariables false
set_option linter.unusedSimpArgs false
open Go.RowKit

namespace Lp
open Lk

variable {w : World}

theorem last_row {base g c : Nat} {init : List Ft} {t : Ft} (h : RowsOn base w (allR (.slice (some ⟨g, 0, none⟩) (init.length + 1) c) (init ++ [t]))) :
    w.ownsRow base 45 8 (.slice (some ⟨g, 0, none⟩) (init.length + 1) c) (init.length + 1) (rowC ftC (init ++ [t])) := by
  have h1 := h.on _ (List.mem_cons_self)
  simpa using h1

theorem row_last {base g c i : Nat} {u : Value} {init : List Ft} {t : Ft} (h1 : w.ownsRow base 45 8 (.slice (some ⟨g, 0, none⟩) (init.length + 1) c) (init.length + 1) (rowC ftC (init ++ [t]))) (hu : (ftC t)[i]? = some u) :
    w.cell? ⟨g, init.length * 8 + i, none⟩ = some u ∧ w.frozen? ⟨g, init.length * 8 + i, none⟩ = false := by
  have hi : i < 8 := by have := (List.getElem?_eq_some_iff.1 hu).1; rwa [ftC_len] at this
  have h2 : (rowC ftC (init ++ [t]))[init.length * 8 + i]? = some u := by
    have := rowC_get ftC_len (init ++ [t]) init.length t [] (by simp) i hi
    rw [List.append_nil] at this
    exact this.trans hu
  constructor
  · have h3 := h1.cells (g := g) rfl _ u h2
    rwa [show (⟨g, 0, none⟩ : Addr).add (init.length * 8 + i) = ⟨g, init.length * 8 + i, none⟩ by unfold Addr.add; split <;> simp_all] at h3
  · rcases h1.2 with ⟨h0, _⟩ | ⟨g', cap, cur, e, _, hg, _⟩
    · cases h0
    · cases e
      exact frozen_of_row w g _ _ _ hg

theorem last_cell {base g c i : Nat} {u : Value} {init : List Ft} {t : Ft} (h : RowsOn base w (allR (.slice (some ⟨g, 0, none⟩) (init.length + 1) c) (init ++ [t]))) (hu : (ftC t)[i]? = some u) :
    w.cell? ⟨g, init.length * 8 + i, none⟩ = some u ∧ w.frozen? ⟨g, init.length * 8 + i, none⟩ = false := row_last (last_row h) hu

/-- Behind a list's growth the last function's cells are as they were. -/
theorem last_cell2 {base g c i : Nat} {u : Value} {init : List Ft} {t : Ft} {r : RowD} {w' : World} (h : RowsOn base w (allR (.slice (some ⟨g, 0, none⟩) (init.length + 1) c) (init ++ [t]))) (hr : r ∈ five t)
    (hk : ∀ q, q < w.heap.size → some q ≠ r.v.ownBlock → w'.heap[q]? = w.heap[q]?) (hu : (ftC t)[i]? = some u) :
    w'.cell? ⟨g, init.length * 8 + i, none⟩ = some u ∧ w'.frozen? ⟨g, init.length * 8 + i, none⟩ = false := by
  have h1 := last_row h
  have h2 := (List.pairwise_cons.1 h.apart).1 r (by simp only [List.mem_flatMap]; exact ⟨t, by simp, hr⟩)
  exact row_last (own_kept h1 fun q hq => hk q (h1.lt q hq).2 fun e => h2 q hq e.symm) hu

theorem five_row {base : Nat} {v : Value} {init : List Ft} {t : Ft} (h : RowsOn base w (allR v (init ++ [t]))) {r : RowD} (hr : r ∈ five t) : w.ownsRow base r.e r.k r.v r.n r.xs :=
  h.on r (by simp only [allR, List.mem_cons, List.mem_flatMap]; exact .inr ⟨t, by simp, hr⟩)

/-- What a line has told of the last function. -/
structure Told (base g c b : Nat) (init : List Ft) (t' : Ft) (w0 : World) (l' : Ln) (w w' : World) : Prop where
  rows : RowsOn base w' (allR (.slice (some ⟨g, 0, none⟩) (init.length + 1) c) (init ++ [t']))
  free : ∀ r ∈ allR (.slice (some ⟨g, 0, none⟩) (init.length + 1) c) (init ++ [t']), r.v.ownBlock ≠ some b
  line : Rd w0 b l' w'
  bel : Below base w w'

theorem told {base g c b j : Nat} {init : List Ft} {t t' : Ft} {A B : List RowD} {r : RowD} {v' : Value} {n' : Nat} {xs' : List Value} {w0 W w1 w2 : World} {l1 : Ln}
    (h : RowsOn base w (allR (.slice (some ⟨g, 0, none⟩) (init.length + 1) c) (init ++ [t]))) (hf : ∀ r ∈ allR (.slice (some ⟨g, 0, none⟩) (init.length + 1) c) (init ++ [t]), r.v.ownBlock ≠ some b)
    (hbw : base ≤ w.heap.size) (hbb : base ≤ b) (hb0 : w0.heap.size ≤ base) (hB : Below w.heap.size w W) (hr1 : Rst b W w1) (hd1 : Rd w0 b l1 w1)
    (e1 : five t = A ++ r :: B) (e2 : five t' = A ++ (⟨r.e, r.k, v', n', xs'⟩ : RowD) :: B) (e3 : ftC t' = (ftC t).set j v') (hj : j < 8)
    (hown : w2.ownsRow base r.e r.k v' n' xs') (hat : v'.ownBlock = r.v.ownBlock ∨ ∀ g, v'.ownBlock = some g → w1.heap.size ≤ g)
    (o2 : w2.os = w1.os) (t2 : w2.tape = w1.tape) (u2 : w2.output = w1.output) (hs2 : w1.heap.size ≤ w2.heap.size)
    (hk : ∀ q, q < w1.heap.size → some q ≠ r.v.ownBlock → w2.heap[q]? = w1.heap[q]?) :
    Told base g c b init t' w0 l1 w (w2.setCell ⟨g, init.length * 8 + j, none⟩ v') := by
  have h1 := (h.below hB).rst hr1 hf
  have hrm : r ∈ allR (.slice (some ⟨g, 0, none⟩) (init.length + 1) c) (init ++ [t]) := by
    simp only [allR, List.mem_cons, List.mem_flatMap]
    exact .inr ⟨t, by simp, by rw [e1]; simp⟩
  have hgm := last_row h1
  have hgl := hgm.lt g rfl
  have hgb : g ≠ b := by
    rintro rfl
    exact hf _ (List.mem_cons_self) rfl
  have hrl := (h1.on r hrm).lt
  have hbl := hd1.ln.lt
  have k12 : Below base w1 w2 := ⟨o2, t2, u2, hs2, fun q hq => hk q (by omega) fun e => by have := hrl q e.symm; omega⟩
  have k01 : Below base W w1 := hr1.below hbb (Nat.le_trans hbw hB.size)
  refine ⟨h1.last e1 e2 e3 hj hown hat hk, fun r' hr' => ?_, ?_, ?_⟩
  · simp only [allR, List.mem_cons, List.mem_flatMap] at hr'
    rcases hr' with rfl | ⟨x, hx, hr'⟩
    · exact hf (⟨45, 8, .slice (some ⟨g, 0, none⟩) (init.length + 1) c, (init ++ [t]).length, rowC ftC (init ++ [t])⟩ : RowD) List.mem_cons_self
    · rcases List.mem_append.1 hx with hx | hx
      · exact hf r' (by simp only [allR, List.mem_cons, List.mem_flatMap]; exact .inr ⟨x, by simp [hx], hr'⟩)
      · simp only [List.mem_cons, List.not_mem_nil, or_false] at hx
        subst hx
        rw [e2] at hr'
        have old : ∀ r'', r'' ∈ five t → r''.v.ownBlock ≠ some b := fun r'' hr'' => hf r'' (by simp only [allR, List.mem_cons, List.mem_flatMap]; exact .inr ⟨t, by simp, hr''⟩)
        rcases List.mem_append.1 hr' with hr' | hr'
        · exact old r' (by rw [e1]; simp [hr'])
        · rcases List.mem_cons.1 hr' with rfl | hr'
          · intro e
            rcases hat with h6 | h6
            · exact hf r hrm (h6 ▸ e)
            · have := h6 b e; omega
          · exact old r' (by rw [e1]; simp [hr'])
  · refine Rd.put ⟨(hk b hbl fun e => hf r hrm e.symm).trans hd1.ln, hd1.base, hd1.bel.trans (k12.mono hb0), hd1.len⟩ (by omega) (fun e => hgb e.symm) v'
  · exact ((hB.mono hbw).trans (k01.trans k12)).setCell hgl.1 v'

set_option maxRecDepth 20000 in
set_option maxHeartbeats 4000000 in
theorem addCap_in {base g c b : Nat} {init : List Ft} {t : Ft} (f1 : List UInt8)
    (h : RowsOn base w (allR (.slice (some ⟨g, 0, none⟩) (init.length + 1) c) (init ++ [t]))) (hf : ∀ r ∈ allR (.slice (some ⟨g, 0, none⟩) (init.length + 1) c) (init ++ [t]), r.v.ownBlock ≠ some b)
    (hbw : base ≤ w.heap.size) (hbb : base ≤ b) (hl : t.f.caps.length ≤ 1048576) {w0 : World} {l : Ln} (hd : Rd w0 b l w) (hb0 : w0.heap.size ≤ base) (he : ErrT w0) (tab : Tab w0) :
    Calls Tryz.prog 34 #[.pointer (some ⟨g, init.length * 8, none⟩), .int .u8 2, .string (bs f1), .pointer (some ⟨b, 0, none⟩)] w fun e w' => e = .returned (.tuple #[]) ∧
      ∃ s', Told base g c b init ⟨{ t.f with caps := more 4096 t.f.caps ⟨(bs f1).toList == [117, 112], l.num⟩ }, s'⟩ w0 l.numd w w' := by
  have HN := fun (W : World) (hB : Below w.heap.size w W) => number_in (hd.below hB) he tab
  have F := fun (W : World) (hB : Below w.heap.size w W) => last_cell (i := 3) (h.below hB) rfl
  have F1 := fun (W W1 : World) (hB : Below w.heap.size w W) (hr : Rst b W W1) => last_cell (i := 3) ((h.below hB).rst hr hf) rfl
  have K1 : ∀ (W W1 : World), Below w.heap.size w W → Rst b W W1 → Calls Tryz.prog 63 #[.slice t.s.qc t.f.caps.length t.s.cc, .agg #[.bool ((bs f1).toList == [117, 112]), .int .i64 l.num], .int .i64 4096] W1 fun E w' => Grown base 72 2 (.slice t.s.qc t.f.caps.length t.s.cc) (more 4096 t.f.caps ⟨(bs f1).toList == [117, 112], l.num⟩).length (rowC capC (more 4096 t.f.caps ⟨(bs f1).toList == [117, 112], l.num⟩)) W1 E w' :=
    fun W W1 hB hr => keepCap_in (limit := 4096) (x := ⟨(bs f1).toList == [117, 112], l.num⟩) (five_row ((h.below hB).rst hr hf) (by unfold five; exact List.mem_cons_self)) (Nat.le_trans (Nat.le_trans hbw hB.size) hr.size) hl (by omega)
  have F2 := fun (W W1 W2 : World) (hB : Below w.heap.size w W) (hr : Rst b W W1) (hk : ∀ q, q < W1.heap.size → some q ≠ (Value.slice t.s.qc t.f.caps.length t.s.cc).ownBlock → W2.heap[q]? = W1.heap[q]?) => last_cell2 (i := 3) (r := ⟨72, 2, .slice t.s.qc t.f.caps.length t.s.cc, t.f.caps.length, rowC capC t.f.caps⟩) ((h.below hB).rst hr hf) (by unfold five; exact List.mem_cons_self) hk rfl
  obtain ⟨x0, y0⟩ := F w (Below.refl _ _)
  obtain ⟨x1, y1⟩ := F w.drew (Below.refl _ _).drew
  go_enter Tryz.func34, Tryz.ntmps34
  go_wp2
  go_region_law (first
    | (go_simp; go_at_call 62; (with_reducible refine (HN _ (Below.refl _ _).drew).mono ?_); rintro e w1 ⟨rfl, hd1, hr1⟩; obtain ⟨x2, y2⟩ := F1 _ _ (Below.refl _ _).drew hr1; (try dsimp only [Oper.upon]))
    | (go_simp; go_at_call 63; (with_reducible refine (K1 _ _ (Below.refl _ _).drew hr1).mono ?_); rintro e w2 ⟨p2, c2, rfl, hown2, hat2, o2, t2, u2, hs2, hk2⟩; obtain ⟨x3, y3⟩ := F2 _ _ w2 (Below.refl _ _).drew hr1 hk2; (try dsimp only [Oper.upon])))
  all_goals
    go_wp2
    go_end0
    refine ⟨rfl, { t.s with qc := p2, cc := c2 }, ?_⟩
    exact told (A := []) h hf hbw hbb hb0 ((Below.refl _ _).drew) hr1 hd1 (by rfl) (by rfl) (by rfl) (by omega) hown2 hat2 o2 t2 u2 hs2 hk2

end Lp

end Go.Proofs.YtnekcomkochmjaaGreatDoor

namespace Go.Proofs.YtnekcomkochmjaaGreatDoor
set_option linter.unusedVariables false
set_option linter.unusedSimpArgs false
open Go.RowKit

namespace Lp
open Lk

variable {w : World}

set_option maxRecDepth 20000 in
set_option maxHeartbeats 4000000 in
theorem addConst_in (HIA : AnyC) {base g c b : Nat} {init : List Ft} {t : Ft} (f1 : List UInt8)
    (h : RowsOn base w (allR (.slice (some ⟨g, 0, none⟩) (init.length + 1) c) (init ++ [t]))) (hf : ∀ r ∈ allR (.slice (some ⟨g, 0, none⟩) (init.length + 1) c) (init ++ [t]), r.v.ownBlock ≠ some b)
    (hbw : base ≤ w.heap.size) (hbb : base ≤ b) (hl : t.f.consts.length ≤ 1048576) {w0 : World} {l : Ln} (hd : Rd w0 b l w) (hb0 : w0.heap.size ≤ base) (he : ErrT w0) (tab : Tab w0) :
    Calls Tryz.prog 34 #[.pointer (some ⟨g, init.length * 8, none⟩), .int .u8 3, .string (bs f1), .pointer (some ⟨b, 0, none⟩)] w fun e w' => e = .returned (.tuple #[]) ∧
      ∃ s', Told base g c b init ⟨{ t.f with consts := more 16384 t.f.consts (l.conV f1) }, s'⟩ w0 (l.cond f1) w w' := by
  have HN := fun (W : World) (hB : Below w.heap.size w W) => constant_in HIA (hd.below hB) f1 he tab
  have Fa := fun (W : World) (hB : Below w.heap.size w W) => last_cell (i := 4) (h.below hB) rfl
  have Fb := fun (W W1 : World) (hB : Below w.heap.size w W) (hr : Rst b W W1) => last_cell (i := 4) ((h.below hB).rst hr hf) rfl
  have K : ∀ (W W1 : World), Below w.heap.size w W → Rst b W W1 → Calls Tryz.prog 64 #[.slice t.s.qk t.f.consts.length t.s.ck, .agg #[.int .u8 (l.conV f1).k, .int .i64 (l.conV f1).n, .string (l.conV f1).s], .int .i64 16384] W1 fun E w' => Grown base 75 3 (.slice t.s.qk t.f.consts.length t.s.ck) (more 16384 t.f.consts (l.conV f1)).length (rowC conC (more 16384 t.f.consts (l.conV f1))) W1 E w' :=
    fun W W1 hB hr => keepConst_in (limit := 16384) (x := (l.conV f1)) (five_row ((h.below hB).rst hr hf) (by unfold five; exact List.mem_cons_of_mem _ (List.mem_cons_self))) (Nat.le_trans (Nat.le_trans hbw hB.size) hr.size) hl (by omega)
  have Fc := fun (W W1 W2 : World) (hB : Below w.heap.size w W) (hr : Rst b W W1) (hk : ∀ q, q < W1.heap.size → some q ≠ (Value.slice t.s.qk t.f.consts.length t.s.ck).ownBlock → W2.heap[q]? = W1.heap[q]?) => last_cell2 (i := 4) (r := ⟨75, 3, .slice t.s.qk t.f.consts.length t.s.ck, t.f.consts.length, rowC conC t.f.consts⟩) ((h.below hB).rst hr hf) (by unfold five; exact List.mem_cons_of_mem _ (List.mem_cons_self)) hk rfl
  obtain ⟨x0, y0⟩ := Fa w (Below.refl _ _)
  obtain ⟨x1, y1⟩ := Fa w.drew (Below.refl _ _).drew
  go_enter Tryz.func34, Tryz.ntmps34
  go_wp2
  go_region_law (first
    | (go_simp; go_at_call 65; (with_reducible refine (HN _ (Below.refl _ _).drew).mono ?_); rintro e w1 ⟨rfl, hd1, hr1⟩; obtain ⟨x2, y2⟩ := Fb _ _ (Below.refl _ _).drew hr1; (try dsimp only [Oper.upon]))
    | (go_simp; go_at_call 64; (with_reducible refine (K _ _ (Below.refl _ _).drew hr1).mono ?_); rintro e w2 ⟨p2, c2, rfl, hown2, hat2, o2, t2, u2, hs2, hk2⟩; obtain ⟨x3, y3⟩ := Fc _ _ w2 (Below.refl _ _).drew hr1 hk2; (try dsimp only [Oper.upon])))
  all_goals
    go_wp2
    go_end0
    refine ⟨rfl, { t.s with qk := p2, ck := c2 }, ?_⟩
    exact told (A := [⟨72, 2, .slice t.s.qc t.f.caps.length t.s.cc, t.f.caps.length, rowC capC t.f.caps⟩]) h hf hbw hbb hb0 ((Below.refl _ _).drew) hr1 hd1 (by rfl) (by rfl) (by rfl) (by omega) hown2 hat2 o2 t2 u2 hs2 hk2

set_option maxRecDepth 20000 in
set_option maxHeartbeats 4000000 in
theorem addCatch_in {base g c b : Nat} {init : List Ft} {t : Ft} (f1 : List UInt8)
    (h : RowsOn base w (allR (.slice (some ⟨g, 0, none⟩) (init.length + 1) c) (init ++ [t]))) (hf : ∀ r ∈ allR (.slice (some ⟨g, 0, none⟩) (init.length + 1) c) (init ++ [t]), r.v.ownBlock ≠ some b)
    (hbw : base ≤ w.heap.size) (hbb : base ≤ b) (hl : t.f.hs.length ≤ 1048576) {w0 : World} {l : Ln} (hd : Rd w0 b l w) (hb0 : w0.heap.size ≤ base) (he : ErrT w0) (tab : Tab w0) :
    Calls Tryz.prog 34 #[.pointer (some ⟨g, init.length * 8, none⟩), .int .u8 5, .string (bs f1), .pointer (some ⟨b, 0, none⟩)] w fun e w' => e = .returned (.tuple #[]) ∧
      ∃ s', Told base g c b init ⟨{ t.f with hs := more 16384 t.f.hs l.hanV }, s'⟩ w0 l.hand w w' := by
  have HN := fun (W : World) (hB : Below w.heap.size w W) => handler_in (hd.below hB) he tab
  have Fa := fun (W : World) (hB : Below w.heap.size w W) => last_cell (i := 7) (h.below hB) rfl
  have Fb := fun (W W1 : World) (hB : Below w.heap.size w W) (hr : Rst b W W1) => last_cell (i := 7) ((h.below hB).rst hr hf) rfl
  have K : ∀ (W W1 : World), Below w.heap.size w W → Rst b W W1 → Calls Tryz.prog 70 #[.slice t.s.qh t.f.hs.length t.s.ch, .agg #[.int .i64 l.hanV.fr, .int .i64 l.hanV.to, .int .i64 l.hanV.at_, .int .i64 l.hanV.deep], .int .i64 16384] W1 fun E w' => Grown base 78 4 (.slice t.s.qh t.f.hs.length t.s.ch) (more 16384 t.f.hs l.hanV).length (rowC hanC (more 16384 t.f.hs l.hanV)) W1 E w' :=
    fun W W1 hB hr => keepHn_in (limit := 16384) (x := l.hanV) (five_row ((h.below hB).rst hr hf) (by unfold five; exact List.mem_cons_of_mem _ (List.mem_cons_of_mem _ (List.mem_cons_of_mem _ (List.mem_cons_of_mem _ (List.mem_cons_self)))))) (Nat.le_trans (Nat.le_trans hbw hB.size) hr.size) hl (by omega)
  have Fc := fun (W W1 W2 : World) (hB : Below w.heap.size w W) (hr : Rst b W W1) (hk : ∀ q, q < W1.heap.size → some q ≠ (Value.slice t.s.qh t.f.hs.length t.s.ch).ownBlock → W2.heap[q]? = W1.heap[q]?) => last_cell2 (i := 7) (r := ⟨78, 4, .slice t.s.qh t.f.hs.length t.s.ch, t.f.hs.length, rowC hanC t.f.hs⟩) ((h.below hB).rst hr hf) (by unfold five; exact List.mem_cons_of_mem _ (List.mem_cons_of_mem _ (List.mem_cons_of_mem _ (List.mem_cons_of_mem _ (List.mem_cons_self))))) hk rfl
  obtain ⟨x0, y0⟩ := Fa w (Below.refl _ _)
  obtain ⟨x1, y1⟩ := Fa w.drew (Below.refl _ _).drew
  go_enter Tryz.func34, Tryz.ntmps34
  go_wp2
  go_region_law (first
    | (go_simp; go_at_call 71; (with_reducible refine (HN _ (Below.refl _ _).drew).mono ?_); rintro e w1 ⟨rfl, hd1, hr1⟩; obtain ⟨x2, y2⟩ := Fb _ _ (Below.refl _ _).drew hr1; (try dsimp only [Oper.upon]))
    | (go_simp; go_at_call 70; (with_reducible refine (K _ _ (Below.refl _ _).drew hr1).mono ?_); rintro e w2 ⟨p2, c2, rfl, hown2, hat2, o2, t2, u2, hs2, hk2⟩; obtain ⟨x3, y3⟩ := Fc _ _ w2 (Below.refl _ _).drew hr1 hk2; (try dsimp only [Oper.upon])))
  all_goals
    go_wp2
    go_end0
    refine ⟨rfl, { t.s with qh := p2, ch := c2 }, ?_⟩
    exact told (A := [⟨72, 2, .slice t.s.qc t.f.caps.length t.s.cc, t.f.caps.length, rowC capC t.f.caps⟩, ⟨75, 3, .slice t.s.qk t.f.consts.length t.s.ck, t.f.consts.length, rowC conC t.f.consts⟩, ⟨38, 2, .slice t.s.qi t.f.code.length t.s.ci, t.f.code.length, rowC insC t.f.code⟩, ⟨3, 1, .slice t.s.ql t.f.lines.length t.s.cl, t.f.lines.length, rowC linC t.f.lines⟩]) h hf hbw hbb hb0 ((Below.refl _ _).drew) hr1 hd1 (by rfl) (by rfl) (by rfl) (by omega) hown2 hat2 o2 t2 u2 hs2 hk2

set_option maxRecDepth 20000 in
set_option maxHeartbeats 8000000 in
theorem addIns_in {base g c b : Nat} {init : List Ft} {t : Ft} (f1 : List UInt8) (hf1 : f1.length ≤ 1048576)
    (h : RowsOn base w (allR (.slice (some ⟨g, 0, none⟩) (init.length + 1) c) (init ++ [t]))) (hf : ∀ r ∈ allR (.slice (some ⟨g, 0, none⟩) (init.length + 1) c) (init ++ [t]), r.v.ownBlock ≠ some b)
    (hbw : base ≤ w.heap.size) (hbb : base ≤ b) (hl : t.f.lines.length ≤ 1048576) (hlc : t.f.code.length ≤ 1048576) {w0 : World} {l : Ln} (hd : Rd w0 b l w) (hb0 : w0.heap.size ≤ base) (he : ErrT w0) (tab : Tab w0) (hw : WordsT w0) :
    Calls Tryz.prog 34 #[.pointer (some ⟨g, init.length * 8, none⟩), .int .u8 4, .string (bs f1), .pointer (some ⟨b, 0, none⟩)] w fun e w' => e = .returned (.tuple #[]) ∧
      ∃ s', Told base g c b init ⟨{ t.f with lines := more 16384 t.f.lines (numP f1).1, code := more 16384 t.f.code (l.lined f1).insV }, s'⟩ w0 (l.lined f1).insd w w' := by
  have HN := fun (W : World) (hB : Below w.heap.size w W) => lineOf_in (hd.below hB) f1 hf1 he tab
  have Fa := fun (W : World) (hB : Below w.heap.size w W) => last_cell (i := 6) (h.below hB) rfl
  have Fb := fun (W W1 : World) (hB : Below w.heap.size w W) (hr : Rst b W W1) => last_cell (i := 6) ((h.below hB).rst hr hf) rfl
  have K : ∀ (W W1 : World), Below w.heap.size w W → Rst b W W1 → Calls Tryz.prog 66 #[.slice t.s.ql t.f.lines.length t.s.cl, .int .i64 (numP f1).1, .int .i64 16384] W1 fun E w' => Grown base 3 1 (.slice t.s.ql t.f.lines.length t.s.cl) (more 16384 t.f.lines (numP f1).1).length (rowC linC (more 16384 t.f.lines (numP f1).1)) W1 E w' :=
    fun W W1 hB hr => keepInt_in (limit := 16384) (x := (numP f1).1) (five_row ((h.below hB).rst hr hf) (by unfold five; exact List.mem_cons_of_mem _ (List.mem_cons_of_mem _ (List.mem_cons_of_mem _ (List.mem_cons_self))))) (Nat.le_trans (Nat.le_trans hbw hB.size) hr.size) hl (by omega)
  have Fc := fun (W W1 W2 : World) (hB : Below w.heap.size w W) (hr : Rst b W W1) (hk : ∀ q, q < W1.heap.size → some q ≠ (Value.slice t.s.ql t.f.lines.length t.s.cl).ownBlock → W2.heap[q]? = W1.heap[q]?) => last_cell2 (i := 6) (r := ⟨3, 1, .slice t.s.ql t.f.lines.length t.s.cl, t.f.lines.length, rowC linC t.f.lines⟩) ((h.below hB).rst hr hf) (by unfold five; exact List.mem_cons_of_mem _ (List.mem_cons_of_mem _ (List.mem_cons_of_mem _ (List.mem_cons_self)))) hk rfl
  obtain ⟨x0, y0⟩ := Fa w (Below.refl _ _)
  obtain ⟨x1, y1⟩ := Fa w.drew (Below.refl _ _).drew
  go_enter Tryz.func34, Tryz.ntmps34
  go_wp2
  go_region_law (first
    | (go_simp; go_at_call 67; (with_reducible refine (HN _ (Below.refl _ _).drew).mono ?_); rintro e w1 ⟨rfl, hd1, hr1⟩; obtain ⟨x2, y2⟩ := Fb _ _ (Below.refl _ _).drew hr1; (try dsimp only [Oper.upon]))
    | (go_simp; go_at_call 66; (with_reducible refine (K _ _ (Below.refl _ _).drew hr1).mono ?_); rintro e w2 ⟨p2, c2, rfl, hown2, hat2, o2, t2, u2, hs2, hk2⟩; obtain ⟨x3, y3⟩ := Fc _ _ w2 (Below.refl _ _).drew hr1 hk2; (try dsimp only [Oper.upon])))
  all_goals
    have T1 := told (j := 6) (v' := .slice p2 (more 16384 t.f.lines (numP f1).1).length c2) (t' := (⟨{ t.f with lines := more 16384 t.f.lines (numP f1).1 }, { t.s with ql := p2, cl := c2 }⟩ : Ft)) (A := [⟨72, 2, .slice t.s.qc t.f.caps.length t.s.cc, t.f.caps.length, rowC capC t.f.caps⟩, ⟨75, 3, .slice t.s.qk t.f.consts.length t.s.ck, t.f.consts.length, rowC conC t.f.consts⟩, ⟨38, 2, .slice t.s.qi t.f.code.length t.s.ci, t.f.code.length, rowC insC t.f.code⟩]) h hf hbw hbb hb0 ((Below.refl _ _).drew) hr1 hd1 (by rfl) (by rfl) (by rfl) (by omega) hown2 hat2 o2 t2 u2 hs2 hk2
    clear hk2 hat2 hown2 Fc x2 x3 y2 y3 o2 t2 u2 hs2
    obtain ⟨vl, hvl⟩ : ∃ vl : Value, vl = .slice p2 (more 16384 t.f.lines (numP f1).1).length c2 := ⟨_, rfl⟩
    obtain ⟨wn, hwn⟩ : ∃ wn : World, wn = w2.setCell ⟨g, init.length * 8 + 6, none⟩ (.slice p2 (more 16384 t.f.lines (numP f1).1).length c2) := ⟨_, rfl⟩
    rw [← hwn] at T1 ⊢
    clear hwn
    obtain ⟨tn, htn⟩ : ∃ tn : Ft, tn = (⟨{ t.f with lines := more 16384 t.f.lines (numP f1).1 }, { t.s with ql := p2, cl := c2 }⟩ : Ft) := ⟨_, rfl⟩
    rw [← htn] at T1
    have hlc2 : tn.f.code.length ≤ 1048576 := by rw [htn]; exact hlc
    have HTN : Hid (tn = (⟨{ t.f with lines := more 16384 t.f.lines (numP f1).1 }, { t.s with ql := p2, cl := c2 }⟩ : Ft)) := htn
    clear htn hvl
    have hbwn : base ≤ wn.heap.size := Nat.le_trans hbw T1.bel.size
    have hT := T1.rows
    have hTf := T1.free
    have hTl := T1.line
    have HNn := fun (W : World) (hB : Below wn.heap.size wn W) => ins_in (hTl.below hB) he tab hw
    have Fna := fun (W : World) (hB : Below wn.heap.size wn W) => last_cell (i := 5) (hT.below hB) rfl
    have Fnb := fun (W W1 : World) (hB : Below wn.heap.size wn W) (hr : Rst b W W1) => last_cell (i := 5) ((hT.below hB).rst hr hTf) rfl
    have Kn : ∀ (W W1 : World), Below wn.heap.size wn W → Rst b W W1 → Calls Tryz.prog 68 #[.slice tn.s.qi tn.f.code.length tn.s.ci, .agg #[.int .u8 (l.lined f1).insV.op, .int .i64 (l.lined f1).insV.a], .int .i64 16384] W1 fun E w' => Grown base 38 2 (.slice tn.s.qi tn.f.code.length tn.s.ci) (more 16384 tn.f.code (l.lined f1).insV).length (rowC insC (more 16384 tn.f.code (l.lined f1).insV)) W1 E w' :=
      fun W W1 hB hr => keepIns_in (limit := 16384) (x := (l.lined f1).insV) (five_row ((hT.below hB).rst hr hTf) (by unfold five; exact List.mem_cons_of_mem _ (List.mem_cons_of_mem _ (List.mem_cons_self)))) (Nat.le_trans (Nat.le_trans hbwn hB.size) hr.size) hlc2 (by omega)
    have Fnc := fun (W W1 W2 : World) (hB : Below wn.heap.size wn W) (hr : Rst b W W1) (hk : ∀ q, q < W1.heap.size → some q ≠ (Value.slice tn.s.qi tn.f.code.length tn.s.ci).ownBlock → W2.heap[q]? = W1.heap[q]?) => last_cell2 (i := 5) (r := ⟨38, 2, .slice tn.s.qi tn.f.code.length tn.s.ci, tn.f.code.length, rowC insC tn.f.code⟩) ((hT.below hB).rst hr hTf) (by unfold five; exact List.mem_cons_of_mem _ (List.mem_cons_of_mem _ (List.mem_cons_self))) hk rfl
    obtain ⟨xn0, yn0⟩ := Fna wn (Below.refl _ _)
    obtain ⟨xn1, yn1⟩ := Fna wn.drew (Below.refl _ _).drew
    go_wp2
    go_region_law (first
      | (go_simp; go_at_call 69; (with_reducible refine (HNn _ (Below.refl _ _).drew).mono ?_); rintro e wn1 ⟨rfl, hdn1, hrn1⟩; obtain ⟨xn2, yn2⟩ := Fnb _ _ (Below.refl _ _).drew hrn1; (try dsimp only [Oper.upon]))
      | (go_simp; go_at_call 68; (with_reducible refine (Kn _ _ (Below.refl _ _).drew hrn1).mono ?_); rintro e wn2 ⟨pn2, cn2, rfl, hownn2, hatn2, on2, tn2, un2, hsn2, hkn2⟩; obtain ⟨xn3, yn3⟩ := Fnc _ _ wn2 (Below.refl _ _).drew hrn1 hkn2; (try dsimp only [Oper.upon])))
    all_goals
      go_wp2
      go_end0
      have T2 := told (A := [⟨72, 2, .slice tn.s.qc tn.f.caps.length tn.s.cc, tn.f.caps.length, rowC capC tn.f.caps⟩, ⟨75, 3, .slice tn.s.qk tn.f.consts.length tn.s.ck, tn.f.consts.length, rowC conC tn.f.consts⟩]) (t' := (⟨{ tn.f with code := more 16384 tn.f.code (l.lined f1).insV }, { tn.s with qi := pn2, ci := cn2 }⟩ : Ft)) (j := 5) (v' := .slice pn2 (more 16384 tn.f.code (l.lined f1).insV).length cn2) hT hTf hbwn hbb hb0 ((Below.refl _ _).drew) hrn1 hdn1 (by rfl) (by rfl) (by rfl) (by omega) hownn2 hatn2 on2 tn2 un2 hsn2 hkn2
      have e := HTN.out
      subst e
      exact ⟨rfl, _, T2.rows, T2.free, T2.line, T1.bel.trans T2.bel⟩

end Lp

end Go.Proofs.YtnekcomkochmjaaGreatDoor
