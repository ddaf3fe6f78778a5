/- The document's teller: texts put behind one another. -/
import Derived.Test.YtgokofomoachaaaGreatDoorShText
import Derived.Test.YtgokofomoachaaaGreatDoorShTold
import Derived.Lib.ConvBytes
import Derived.Lib.AtoiErrMem
import Derived.Laws.IdiomStrings
import Derived.Deep.AppendLies
namespace Go.Proofs.YtgokofomoachaaaGreatDoor
set_option linter.unusedVariables false
set_option linter.unusedSimpArgs false
open Go.RowKit

variable {w : World}

theorem add_mid0 (g j : Nat) : (⟨g, 0, none⟩ : Addr).add j = ⟨g, j, none⟩ := by rw [Addr.add_mid, Nat.zero_add]

theorem convS_cells (w : World) (s : ByteArray) : ∀ j u, (Lib.byteCells s.data.toList)[j]? = some u → (Lib.bytesWorld w 5 s).cell? ((⟨w.heap.size, 0, none⟩ : Addr).add j) = some u := by
  intro j u hj
  have hjl : j < s.data.toList.length := by
    have := (List.getElem?_eq_some_iff.1 hj).1
    simpa [Lib.byteCells] using this
  have hjs : j < s.size := by
    have h1 : s.data.toList.length = s.size := by simp
    omega
  rw [add_mid0, Lib.bytesWorld_cell w 5 s j hjs]
  rw [← hj]
  simp only [Lib.byteCells, List.getElem?_map]
  rw [List.getElem?_eq_getElem hjl]
  simp [List.getD, List.getElem?_eq_getElem hjl]

theorem byteCells_one (l : List UInt8) : ∀ u ∈ Lib.byteCells l, u.oneCell' = true := by
  intro u hu
  simp only [Lib.byteCells, List.mem_map] at hu
  obtain ⟨b, -, rfl⟩ := hu
  rfl

/-- A teller in memory. -/
structure Tl (n₀ bt : Nat) (vs : Value) (l : List UInt8) (lg : Bool) (w : World) : Prop where
  base : n₀ ≤ bt
  len : l.length ≤ 4096
  all : ∃ vb, w.heap[bt]? = some (.cells #[vs, vb, .bool lg] 158 (0, 0)) ∧ w.ownsRow n₀ 5 1 vb l.length (Lib.byteCells l)

theorem Tl.lt {n₀ bt : Nat} {vs : Value} {l : List UInt8} {lg : Bool} (h : Tl n₀ bt vs l lg w) : bt < w.heap.size := by
  obtain ⟨vb, hb, _⟩ := h.all
  exact (Array.getElem?_eq_some_iff.1 hb).1

theorem Tl.below {n₀ bt : Nat} {vs : Value} {l : List UInt8} {lg : Bool} (h : Tl n₀ bt vs l lg w) {w' : World} (hB : Below w.heap.size w w') : Tl n₀ bt vs l lg w' := by
  have hl := h.lt
  obtain ⟨h1, h2, vb, hb, ho⟩ := h
  exact ⟨h1, h2, vb, (hB.block _ hl).trans hb, row_below ho hB⟩

/-- A text put: is it too long then, and else what stands there. -/
def PutR (l : List UInt8) (lg : Bool) (x : List UInt8) (l' : List UInt8) (lg' : Bool) : Prop := (lg' = (lg || decide (4096 < l.length + x.length))) ∧ (lg' = false → l' = l ++ x)

theorem PutR.trans {l l1 l2 x y : List UInt8} {g g1 g2 : Bool} (h1 : PutR l g x l1 g1) (h2 : PutR l1 g1 y l2 g2) : PutR l g (x ++ y) l2 g2 := by
  obtain ⟨a1, b1⟩ := h1
  obtain ⟨a2, b2⟩ := h2
  cases g1 with
  | true =>
    simp at a2
    subst a2
    refine ⟨?_, fun h => by cases h⟩
    cases g with
    | true => rfl
    | false =>
      simp at a1 ⊢
      omega
  | false =>
    have e := b1 rfl
    subst e
    cases g with
    | true => simp at a1
    | false =>
      simp at a2
      refine ⟨?_, fun h => by rw [b2 h, List.append_assoc]⟩
      rw [a2]
      simp [Nat.add_assoc]

theorem PutR.nil (l : List UInt8) (g : Bool) (h : l.length ≤ 4096) : PutR l g [] l g := ⟨by cases g <;> simp; omega, fun _ => by simp⟩

/-- What is too long stays so, whatever would come. -/
theorem PutR.long {l l1 x : List UInt8} {g : Bool} (h : PutR l g x l1 true) (y : List UInt8) : PutR l g (x ++ y) l1 true := by
  obtain ⟨a, -⟩ := h
  refine ⟨?_, fun h => by cases h⟩
  cases g with
  | true => rfl
  | false =>
    simp at a ⊢
    omega

/-- A text is put. -/
def TPuts (n₀ bt : Nat) (vs : Value) (l : List UInt8) (lg : Bool) (x : List UInt8) (w : World) (e : Ending) (w' : World) : Prop :=
  e = .returned (.tuple #[]) ∧ ∃ l' lg', Tl n₀ bt vs l' lg' w' ∧ PutR l lg x l' lg' ∧ PStep n₀ bt w w'

set_option maxRecDepth 20000 in
set_option maxHeartbeats 1000000 in
theorem tput_in {n₀ bt : Nat} {vs : Value} {l : List UInt8} {lg : Bool} (h : Tl n₀ bt vs l lg w) (hn : n₀ ≤ w.heap.size) (s : ByteArray) (hs : s.size ≤ 1099511627776) :
    Calls Tryz.prog 246 #[.pointer (some ⟨bt, 0, none⟩), .string s] w fun e w' => TPuts n₀ bt vs l lg s.data.toList w e w' := by
  obtain ⟨i0, hi, hz0, hz1, hz2⟩ := info_parts infoU8
  have hsl : s.data.toList.length = s.size := by simp
  have hlen := h.len
  have hbl := h.lt
  obtain ⟨hb0, -, vb, hb, ho⟩ := h
  obtain ⟨⟨c0, c1, c2⟩, f0, f1, f2⟩ := cell_row3' hb
  cases lg with
  | true =>
    obtain ⟨pv, cv, rfl, -⟩ := row_form ho
    go_enter Tryz.func246, Tryz.ntmps246
    go_wp2
    (try simp only [Exit.inBlock, Exit.then])
    refine bodyPost_ret (results_none (by rfl) _ _ _) (by rfl) ?_
    refine ⟨rfl, l, true, ⟨hb0, hlen, .slice pv l.length cv, ?_, row_kept ho (fun k e => heap_setCell_other _ ⟨bt, 2, none⟩ k _ (fun e2 => ?_))⟩, ⟨rfl, fun h => by cases h⟩, ⟨below_set (Below.refl _ _) hb0 _, fun k cur T fr hk hT hne => heap_setCell_other _ ⟨bt, 2, none⟩ k _ hne⟩⟩
    · have := heap_setCell_same w bt 2 _ _ (.bool true) hb
      simpa using this
    · obtain ⟨cur, hc⟩ := row_obj ho e
      rw [e2, hb] at hc
      cases hc
  | false =>
    have hbv : some bt ≠ vb.ownBlock := fun e => by
      obtain ⟨cur, hc⟩ := row_obj ho e.symm
      rw [hb] at hc
      cases hc
    by_cases hq : 4096 < l.length + s.size
    · have hq' : (4096 : Int) < (l.length : Int) + (s.size : Int) := by omega
      obtain ⟨pv, cv, rfl, -⟩ := row_form ho
      go_enter Tryz.func246, Tryz.ntmps246
      go_wp2
      (try simp only [Exit.inBlock, Exit.then])
      refine bodyPost_ret (results_none (by rfl) _ _ _) (by rfl) ?_
      refine ⟨rfl, l, true, ⟨hb0, hlen, .slice pv l.length cv, ?_, row_kept ho (fun k e => heap_setCell_other _ ⟨bt, 2, none⟩ k _ (fun e2 => ?_))⟩, ⟨by simp; omega, fun h => by cases h⟩, ⟨below_set (Below.refl _ _) hb0 _, fun k cur T fr hk hT hne => heap_setCell_other _ ⟨bt, 2, none⟩ k _ hne⟩⟩
      · have := heap_setCell_same w bt 2 _ _ (.bool true) hb
        simpa using this
      · obtain ⟨cur, hc⟩ := row_obj ho e
        rw [e2, hb] at hc
        cases hc
    · have hq' : ¬ ((4096 : Int) < (l.length : Int) + (s.size : Int)) := by omega
      have hcv := Lib.run_convert_string_bytes (P := Tryz.prog) w 9 156 5 s Tryz.underlying9 Tryz.underlying156 Tryz.underlying5
      have hbw := Lib.bytesWorld_below w 5 s
      have hsw := hbw.size
      have hob := row_below ho hbw
      have hbb := (hbw.block bt hbl).trans hb
      obtain ⟨⟨d0, d1, d2⟩, g0, g1, g2⟩ := cell_row3' hbb
      have hol : ∀ {v : Value}, w.ownsRow n₀ 5 1 v l.length (Lib.byteCells l) → ∃ p c, v = .slice p l.length c := fun h => by obtain ⟨p, c, e, -⟩ := row_form h; exact ⟨p, c, e⟩
      obtain ⟨pv, cv, rfl⟩ := hol ho
      have hcl : (Lib.byteCells s.data.toList).length = s.size * 1 := by simp [Lib.byteCells]
      go_enter Tryz.func246, Tryz.ntmps246
      go_wp2_with (first
        | (at_builtin; (refine wpList_append_own _ rfl _ _ 156 rfl n₀ 5 i0 (.int .u8 0) 1 1 Tryz.underlying156 hi hz0 hz1 hz2 rfl (by decide) _ l.length (Lib.byteCells l) rfl hob ⟨w.heap.size, 0, none⟩ s.size _ (Lib.byteCells s.data.toList) rfl hcl (convS_cells w s) (byteCells_one _) (by unfold maxLen; omega) (by omega) (by omega) ?_); intro v4 w4 hown4 hgrow4 _; have hb4 := (hgrow4.block bt (by omega) hbv).trans hbb; obtain ⟨⟨k0, k1, k2⟩, m0, m1, m2⟩ := cell_row3' hb4; obtain ⟨p4, c4, rfl, -⟩ := row_form hown4))
      go_end0
      refine ⟨rfl, l ++ s.data.toList, false, ⟨hb0, by simp; omega, .slice p4 (l.length + s.size) c4, ?_, ?_⟩, ⟨by simp; omega, fun _ => rfl⟩, ⟨?_, ?_⟩⟩
      · have := heap_setCell_same w4 bt 1 _ _ (.slice p4 (l.length + s.size) c4) hb4
        simpa using this
      · have hne : ∀ k, (Value.slice p4 (l.length + s.size) c4).ownBlock = some k → k ≠ bt := fun k e e2 => by
          obtain ⟨cur, hc⟩ := row_obj hown4 e
          rw [e2, hb4] at hc
          cases hc
        have := row_kept hown4 (fun k e => heap_setCell_other _ ⟨bt, 1, none⟩ k (.slice p4 (l.length + s.size) c4) (hne k e))
        rw [List.length_append, hsl]
        simpa [Lib.byteCells] using this
      · exact below_set ((hbw.mono hn).trans (rbelow_grown hgrow4 (fun k e => (hob.lt k e).1) (by omega))) hb0 _
      · intro k cur T fr hk hT hne
        have hkl := (Array.getElem?_eq_some_iff.1 hk).1
        rw [heap_setCell_other _ ⟨bt, 1, none⟩ k _ hne]
        refine (hgrow4.block k (by omega) (fun e => ?_)).trans (hbw.block k hkl)
        obtain ⟨cur', hc⟩ := row_obj ho e.symm
        rw [hk] at hc
        cases hc
        exact hT rfl

end Go.Proofs.YtgokofomoachaaaGreatDoor
