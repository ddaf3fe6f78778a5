/- A page: a builder that lies in a struct, and its calls. -/
import Derived.Test.YtgokofomoachaaaGreatDoorShLead
import Derived.Lib.AppendStr
import Derived.Lib.UnsafeStr
import Derived.Lib.Builder
import Derived.Lib.ItoaNum
namespace Go.Proofs.YtgokofomoachaaaGreatDoor
set_option linter.unusedVariables false
set_option linter.unusedSimpArgs false
open Go.RowKit

variable {w : World}

/-- A page in memory: its builder's address, its bytes, its store. -/
structure IsPg (n₀ bp : Nat) (vs : Value) (l : List UInt8) (w : World) : Prop where
  base : n₀ ≤ bp
  all : ∃ ad vb, w.heap[bp]? = some (.cells #[ad, vb, vs] 339 (0, 0)) ∧ (ad = .pointer none ∨ ad = .pointer (some ⟨bp, 0, none⟩)) ∧ w.ownsRow n₀ 5 1 vb l.length (Lib.byteCells l) ∧ (l = [] → vb = .slice none 0 0)

/-- What a page's calls may turn. -/
structure PStep (n₀ bp : Nat) (w w' : World) : Prop where
  bel : Below n₀ w w'
  box : ∀ (k : Nat) (cur : Array Value) (T : TypeId) (fr : Nat × Nat), w.heap[k]? = some (.cells cur T fr) → T ≠ 5 → k ≠ bp → w'.heap[k]? = w.heap[k]?

theorem PStep.refl (n₀ bp : Nat) (w : World) : PStep n₀ bp w w := ⟨Below.refl _ _, fun _ _ _ _ _ _ _ => rfl⟩

theorem PStep.trans {n₀ bp : Nat} {w w' w'' : World} (h : PStep n₀ bp w w') (g : PStep n₀ bp w' w'') : PStep n₀ bp w w'' :=
  ⟨h.bel.trans g.bel, fun k cur T fr hk hT hb => (g.box k cur T fr ((h.box k cur T fr hk hT hb).trans hk) hT hb).trans (h.box k cur T fr hk hT hb)⟩

theorem PStep.of_below {n₀ bp : Nat} {w w' : World} (h : Below w.heap.size w w') (hn : n₀ ≤ w.heap.size) : PStep n₀ bp w w' :=
  ⟨h.mono hn, fun k cur T fr hk _ _ => h.block k (Array.getElem?_eq_some_iff.1 hk).1⟩

theorem IsPg.lt {n₀ bp : Nat} {vs : Value} {l : List UInt8} (h : IsPg n₀ bp vs l w) : bp < w.heap.size := by
  obtain ⟨ad, vb, hb, _⟩ := h.all
  exact (Array.getElem?_eq_some_iff.1 hb).1

theorem IsPg.below {n₀ bp : Nat} {vs : Value} {l : List UInt8} (h : IsPg n₀ bp vs l w) {w' : World} (hB : Below w.heap.size w w') : IsPg n₀ bp vs l w' := by
  have hl := h.lt
  obtain ⟨hb0, ad, vb, hb, ha, ho, hnil⟩ := h
  exact ⟨hb0, ad, vb, (hB.block _ hl).trans hb, ha, row_below ho hB, hnil⟩

theorem cell_row3' {W : World} {g : Nat} {a b c : Value} {t : TypeId} (h : W.heap[g]? = some (.cells #[a, b, c] t (0, 0))) :
    (W.cell? ⟨g, 0, none⟩ = some a ∧ W.cell? ⟨g, 1, none⟩ = some b ∧ W.cell? ⟨g, 2, none⟩ = some c) ∧ (W.frozen? ⟨g, 0, none⟩ = false ∧ W.frozen? ⟨g, 1, none⟩ = false ∧ W.frozen? ⟨g, 2, none⟩ = false) :=
  ⟨⟨by rw [cell_of_row W g 0 _ _ _ h]; rfl, by rw [cell_of_row W g 1 _ _ _ h]; rfl, by rw [cell_of_row W g 2 _ _ _ h]; rfl⟩, frozen_of_row W g 0 _ _ h, frozen_of_row W g 1 _ _ h, frozen_of_row W g 2 _ _ h⟩

theorem infoBuilder : (Tryz.prog.info? 337).map (·.size) = some 2 := by kernel_rfl

theorem liesPage : liesAt Tryz.prog Tryz.prog.depth 339 (3 / Tryz.prog.cellsOf 339) 0 337 1 = true := by kernel_rfl

theorem infoU8 : (Tryz.prog.info? 5).map (fun i => (i.zero, i.size, i.bytes)) = some (some (.int .u8 0), 1, 1) := by kernel_rfl

set_option maxRecDepth 20000 in
set_option maxHeartbeats 1000000 in
theorem copyCheck_fresh {bp : Nat} {vb vs : Value} (w : World) (hb : w.heap[bp]? = some (.cells #[.pointer none, vb, vs] 339 (0, 0))) :
    Calls Tryz.prog 278 #[.pointer (some ⟨bp, 0, none⟩)] w fun e w' => e = .returned (.tuple #[]) ∧ w' = w.setCell ⟨bp, 0, none⟩ (.pointer (some ⟨bp, 0, none⟩)) := by
  obtain ⟨j, hj, hjs⟩ := Option.map_eq_some_iff.1 infoBuilder
  obtain ⟨⟨c0, c1, c2⟩, f0, f1, f2⟩ := cell_row3' hb
  have hsh : w.shape? bp = some (339, 3) := by simp [World.shape?, hb]
  have h1 := Lib.run_to_unsafe (P := Tryz.prog) w ⟨bp, 0, none⟩ Tryz.underlying335 Tryz.underlying356 hj (by rw [hjs]; decide) hsh (by simp)
  have h2 := Lib.run_from_unsafe (P := Tryz.prog) w ⟨bp, 0, none⟩ Tryz.underlying356 Tryz.underlying335 hj hsh liesPage
  go_enter Tryz.func278, Tryz.ntmps278
  go_wp2
  rw [run_callFunc_extern Tryz.func283 (by kernel_rfl) (by kernel_rfl) (by kernel_rfl) (e := Extern.AbiNoEscape.same) (by kernel_rfl)]
  rw [Lib.run_noEscape]
  simp only [Result.andThen]
  rw [Oper.upon_value]
  have h3 := Lib.run_neq_ptr_same (P := Tryz.prog) (w.setCell ⟨bp, 0, none⟩ (.pointer (some ⟨bp, 0, none⟩))) ⟨bp, 0, none⟩ Tryz.underlying335 hj
  have hb2 := heap_setCell_same w bp 0 _ _ (.pointer (some ⟨bp, 0, none⟩)) hb
  obtain ⟨⟨d0, d1, d2⟩, -⟩ := cell_row3' (W := w.setCell ⟨bp, 0, none⟩ (.pointer (some ⟨bp, 0, none⟩))) (by simpa using hb2)
  go_wp2
  go_end0
  exact ⟨rfl, rfl⟩

set_option maxRecDepth 20000 in
set_option maxHeartbeats 1000000 in
theorem copyCheck_used {bp : Nat} {vb vs : Value} (w : World) (hb : w.heap[bp]? = some (.cells #[.pointer (some ⟨bp, 0, none⟩), vb, vs] 339 (0, 0))) :
    Calls Tryz.prog 278 #[.pointer (some ⟨bp, 0, none⟩)] w fun e w' => e = .returned (.tuple #[]) ∧ w' = w := by
  obtain ⟨j, hj, hjs⟩ := Option.map_eq_some_iff.1 infoBuilder
  obtain ⟨⟨c0, c1, c2⟩, f0, f1, f2⟩ := cell_row3' hb
  have h3 := Lib.run_neq_ptr_same (P := Tryz.prog) w ⟨bp, 0, none⟩ Tryz.underlying335 hj
  go_enter Tryz.func278, Tryz.ntmps278
  go_wp2
  go_end0
  exact ⟨rfl, rfl⟩

theorem pgLen_in {n₀ bp : Nat} {vs : Value} {l : List UInt8} (h : IsPg n₀ bp vs l w) :
    Calls Tryz.prog 273 #[.pointer (some ⟨bp, 0, none⟩)] w fun e w' => e = .returned (.int .i64 l.length) ∧ w' = w := by
  obtain ⟨hb0, ad, vb, hb, ha, ho, hnil⟩ := h
  obtain ⟨⟨c0, c1, c2⟩, -⟩ := cell_row3' hb
  obtain ⟨p, c, rfl, -⟩ := row_form ho
  clear hnil
  go_enter Tryz.func273, Tryz.ntmps273
  go_wp2
  go_ret
  exact ⟨rfl, rfl⟩

set_option maxRecDepth 20000 in
set_option maxHeartbeats 1000000 in
theorem pgWrite_in {n₀ bp : Nat} {vs : Value} {l : List UInt8} (h : IsPg n₀ bp vs l w) (hn : n₀ ≤ w.heap.size) (s : ByteArray) (hl : l.length + s.size ≤ 1048576) :
    Calls Tryz.prog 274 #[.pointer (some ⟨bp, 0, none⟩), .string s] w fun e w' => e = .returned (.tuple #[.int .i64 s.size, .nilIface]) ∧ IsPg n₀ bp vs (l ++ s.data.toList) w' ∧ PStep n₀ bp w w' := by
  obtain ⟨i0, hi, hz0, hz1, hz2⟩ := info_parts infoU8
  obtain ⟨hb0, ad, vb, hb, ha, ho, hnil⟩ := h
  have hbl := (Array.getElem?_eq_some_iff.1 hb).1
  have hbv : some bp ≠ vb.ownBlock := fun e => by
    obtain ⟨cur, hc⟩ := row_obj ho e.symm
    rw [hb] at hc
    cases hc
  -- behind the check the page bears its own address
  have H1 : Calls Tryz.prog 278 #[.pointer (some ⟨bp, 0, none⟩)] w fun e w' => e = .returned (.tuple #[]) ∧ w'.heap[bp]? = some (.cells #[.pointer (some ⟨bp, 0, none⟩), vb, vs] 339 (0, 0)) ∧ w'.ownsRow n₀ 5 1 vb l.length (Lib.byteCells l) ∧ PStep n₀ bp w w' ∧ w'.heap.size = w.heap.size := by
    rcases ha with rfl | rfl
    · refine (copyCheck_fresh w hb).mono ?_
      rintro e w' ⟨rfl, rfl⟩
      have hb2 := heap_setCell_same w bp 0 _ _ (.pointer (some ⟨bp, 0, none⟩)) hb
      refine ⟨rfl, by simpa using hb2, row_kept ho (fun k e => heap_setCell_other _ ⟨bp, 0, none⟩ k _ (fun e2 => hbv (by rw [e, e2]))), ⟨below_set (Below.refl _ _) hb0 _, fun k cur T fr hk hT hne => heap_setCell_other _ ⟨bp, 0, none⟩ k _ hne⟩, by simp [World.setCell]⟩
    · refine (copyCheck_used w hb).mono ?_
      rintro e w' ⟨rfl, rfl⟩
      exact ⟨rfl, hb, ho, PStep.refl _ _ _, rfl⟩
  go_enter Tryz.func274, Tryz.ntmps274
  go_wp2_with (first
    | (go_at_call 278; refine H1.mono ?_; clear H1; rintro e w1 ⟨rfl, hb1, ho1, hP1, hz⟩; obtain ⟨⟨c0, c1, c2⟩, f0, f1, f2⟩ := cell_row3' hb1)
    | (at_builtin; refine Lib.wpList_append_own_string _ rfl _ _ 156 9 rfl n₀ 5 i0 Tryz.underlying156 Tryz.underlying9 hi hz0 hz1 hz2 _ _ _ rfl ho1 s rfl (by unfold maxLen; omega) (by omega) (by omega) ?_; intro v' w2 hown2 hgrow2 hiff2; have hb2 := (hgrow2.block bp (by omega) hbv).trans hb1; obtain ⟨⟨d0, d1, d2⟩, g0, g1, g2⟩ := cell_row3' hb2; obtain ⟨p2, c2', rfl, -⟩ := row_form hown2; have HIF : Hid _ := And.intro hiff2 hnil; clear hiff2 hnil))
  go_ret2
  refine ⟨rfl, ⟨hb0, .pointer (some ⟨bp, 0, none⟩), .slice p2 (l.length + s.size) c2', ?_, .inr rfl, ?_, ?_⟩, hP1.trans ⟨?_, ?_⟩⟩
  · have := heap_setCell_same w2 bp 1 _ _ (.slice p2 (l.length + s.size) c2') hb2
    simpa using this
  · have hne : ∀ k, (Value.slice p2 (l.length + s.size) c2').ownBlock = some k → k ≠ bp := fun k e e2 => by
      obtain ⟨cur, hc⟩ := row_obj hown2 e
      rw [e2, hb2] at hc
      cases hc
    have := row_kept hown2 (fun k e => heap_setCell_other _ ⟨bp, 1, none⟩ k (.slice p2 (l.length + s.size) c2') (hne k e))
    rw [List.length_append, show s.data.toList.length = s.size from by simp]
    simpa [Lib.byteCells, Lib.strCells] using this
  · intro he
    rw [List.append_eq_nil_iff] at he
    have hs0 : s.size = 0 := by have := congrArg List.length he.2; simpa using this
    exact HIF.out.1.2 ⟨HIF.out.2 he.1, hs0⟩
  · refine below_set (rbelow_grown hgrow2 (fun k e => (ho1.lt k e).1) (by omega)) hb0 _
  · intro k cur T fr hk hT hne
    rw [heap_setCell_other _ ⟨bp, 1, none⟩ k _ hne]
    refine hgrow2.block k (Array.getElem?_eq_some_iff.1 hk).1 (fun e => ?_)
    obtain ⟨cur', hc⟩ := row_obj ho1 e.symm
    rw [hk] at hc
    cases hc
    exact hT rfl

set_option maxHeartbeats 1000000 in
/-- A text that fits is put behind. -/
theorem put_fits {n₀ bp : Nat} {vs : Value} {l : List UInt8} (h : IsPg n₀ bp vs l w) (hn : n₀ ≤ w.heap.size) (s : ByteArray) (hl : l.length + s.size ≤ 4096) :
    Calls Tryz.prog 268 #[.pointer (some ⟨bp, 0, none⟩), .string s] w fun e w' => e = .returned (.bool true) ∧ IsPg n₀ bp vs (l ++ s.data.toList) w' ∧ PStep n₀ bp w w' := by
  have H1 := pgLen_in h
  have H2 := pgWrite_in h hn s (by omega)
  have hq : ¬ ((4096 : Int) - (l.length : Int) < (s.size : Int)) := by omega
  go_enter Tryz.func268, Tryz.ntmps268
  go_wp2_with (first
    | (go_at_call 273; refine H1.mono ?_; clear H1; rintro e w1 ⟨rfl, rfl⟩)
    | (go_at_call 274; refine H2.mono ?_; clear H2; rintro e w1 ⟨rfl, h1, h2⟩))
  go_ret
  exact ⟨rfl, h1, h2⟩

set_option maxHeartbeats 1000000 in
/-- One that does not is not. -/
theorem put_long {n₀ bp : Nat} {vs : Value} {l : List UInt8} (h : IsPg n₀ bp vs l w) (s : ByteArray) (hl0 : l.length ≤ 4096) (hs : s.size ≤ 1099511627776) (hl : 4096 < l.length + s.size) :
    Calls Tryz.prog 268 #[.pointer (some ⟨bp, 0, none⟩), .string s] w fun e w' => e = .returned (.bool false) ∧ w' = w := by
  have H1 := pgLen_in h
  have hq : ((4096 : Int) - (l.length : Int) < (s.size : Int)) := by omega
  go_enter Tryz.func268, Tryz.ntmps268
  go_wp2_with (first
    | (go_at_call 273; refine H1.mono ?_; clear H1; rintro e w1 ⟨rfl, rfl⟩))
  go_ret
  exact ⟨rfl, rfl⟩

/-- A text put: told is whether it fits. -/
def Puts (n₀ bp : Nat) (vs : Value) (l x : List UInt8) (w : World) (e : Ending) (w' : World) : Prop :=
  ∃ b : Bool, e = .returned (.bool b) ∧ PStep n₀ bp w w' ∧ (b = true ↔ l.length + x.length ≤ 4096) ∧ (b = true → IsPg n₀ bp vs (l ++ x) w')

theorem put_in {n₀ bp : Nat} {vs : Value} {l : List UInt8} (h : IsPg n₀ bp vs l w) (hn : n₀ ≤ w.heap.size) (s : ByteArray) (hl0 : l.length ≤ 4096) (hs : s.size ≤ 1099511627776) :
    Calls Tryz.prog 268 #[.pointer (some ⟨bp, 0, none⟩), .string s] w fun e w' => Puts n₀ bp vs l s.data.toList w e w' := by
  have hsz : s.data.toList.length = s.size := by simp
  by_cases hl : l.length + s.size ≤ 4096
  · refine (put_fits h hn s hl).mono ?_
    rintro e w' ⟨rfl, h1, h2⟩
    exact ⟨true, rfl, h2, by simp; omega, fun _ => h1⟩
  · refine (put_long h s hl0 hs (by omega)).mono ?_
    rintro e w' ⟨rfl, rfl⟩
    exact ⟨false, rfl, PStep.refl _ _ _, by simp; omega, fun h => by cases h⟩

end Go.Proofs.YtgokofomoachaaaGreatDoor

namespace Go.Proofs.YtgokofomoachaaaGreatDoor
set_option linter.unusedVariables false
set_option linter.unusedSimpArgs false

def sepT : List UInt8 := [44, 32]

def colT : List UInt8 := [58, 32]

def itemsT (g : Vl → List UInt8) (l : List Vl) : List UInt8 := l.zipIdx.flatMap (fun x => (if x.2 = 0 then [] else sepT) ++ g x.1)

theorem itemsT_snoc (g : Vl → List UInt8) (l : List Vl) (v : Vl) : itemsT g (l ++ [v]) = itemsT g l ++ ((if l.length = 0 then [] else sepT) ++ g v) := by
  unfold itemsT
  rw [List.zipIdx_append, List.flatMap_append]
  simp

def pairsOf : List Vl → List (Vl × Vl)
  | [] => []
  | [a] => [(a, ⟨0, 0⟩)]
  | a :: b :: r => (a, b) :: pairsOf r

def pairsT (g : Vl → List UInt8) (l : List (Vl × Vl)) : List UInt8 := l.zipIdx.flatMap (fun x => (if x.2 = 0 then [] else sepT) ++ (g x.1.1 ++ (colT ++ g x.1.2)))

theorem pairsT_snoc (g : Vl → List UInt8) (l : List (Vl × Vl)) (v : Vl × Vl) : pairsT g (l ++ [v]) = pairsT g l ++ ((if l.length = 0 then [] else sepT) ++ (g v.1 ++ (colT ++ g v.2))) := by
  unfold pairsT
  rw [List.zipIdx_append, List.flatMap_append]
  simp

theorem pairsOf_get : ∀ (l : List Vl) (i : Nat), (pairsOf l)[i]? = (l[2 * i]?).map (fun a => (a, (l[2 * i + 1]?).getD ⟨0, 0⟩))
  | [], i => by simp [pairsOf]
  | [a], 0 => rfl
  | [a], i + 1 => by simp [pairsOf]
  | a :: b :: r, 0 => rfl
  | a :: b :: r, i + 1 => by
    have := pairsOf_get r i
    rw [show 2 * (i + 1) = 2 * i + 2 by omega]
    simpa [pairsOf] using this

theorem pairsOf_len : ∀ (l : List Vl), 2 * (pairsOf l).length = l.length + l.length % 2
  | [] => rfl
  | [a] => rfl
  | a :: b :: r => by have := pairsOf_len r; simp [pairsOf]; omega

/-- A list's or a map's text, by its values'. -/
def rowT (g : Vl → List UInt8) (o : Om) : List UInt8 := if o.k = 4 then [91] ++ (itemsT g o.l ++ [93]) else [123] ++ (pairsT g (pairsOf o.l) ++ [125])

/-- A value's text, by its row's. -/
def txtW (S : List Om) (R : Om → List UInt8) (v : Vl) : List UInt8 :=
  if v.k = 0 then [110, 105, 108]
  else if v.k = 1 then (if v.n = 1 then [121, 101, 115] else [110, 111])
  else if v.k = 2 then Lib.itoa v.n
  else match leadO S v with
    | none => [63]
    | some o => if o.k = 3 then o.s.data.toList else if o.k = 4 ∨ o.k = 5 then R o else if o.k = 6 then [102, 110, 32] ++ Lib.itoa o.fn else [63]

/-- A value's text, so many rows within it. -/
def txtV (S : List Om) : Nat → Vl → List UInt8
  | 0 => txtW S (fun _ => [46, 46])
  | f + 1 => txtW S (rowT (txtV S f))

end Go.Proofs.YtgokofomoachaaaGreatDoor
