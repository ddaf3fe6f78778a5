/- The document's teller: texts put behind one another. -/
import Derived.Test.YtgokofomoachaaaGreatDoorShText
import Derived.Test.YtgokofomoachaaaGreatDoorShTold
import Derived.Lib.ConvBytes
import Derived.Lib.AtoiErrMem
import Derived.Laws.IdiomStrings
import Derived.Deep.AppendLies
import Derived.Test.YtgokofomoachaaaGreatDoorShMayBe
import Derived.Test.YtgokofomoachaaaGreatDoorShTwinO
import Derived.Test.YtgokofomoachaaaGreatDoorShCheck
import Derived.Lib.BufferRead
import Derived.Test.YtgokofomoachaaaGreatDoorPoText
namespace Go.Proofs.YtgokofomoachaaaGreatDoor
set_option linter.unusedVariables false
set_option linter.unusedSimpArgs false
open Go.RowKit

variable {w : World}

/-- A teller in memory. -/
structure Tl (n₀ bt : Nat) (vs : Value) (l : List UInt8) (lg : Bool) (w : World) : Prop where
  base : n₀ ≤ bt
  len : l.length ≤ 4096
  all : ∃ vb, w.heap[bt]? = some (.cells #[vs, vb, .bool lg] 158 (0, 0)) ∧ w.ownsRow n₀ 5 1 vb l.length (Lib.byteCells l)

theorem Tl.lt {n₀ bt : Nat} {vs : Value} {l : List UInt8} {lg : Bool} (h : Tl n₀ bt vs l lg w) : bt < w.heap.size := by
  obtain ⟨vb, hb, _⟩ := h.all
  exact (Array.getElem?_eq_some_iff.1 hb).1

theorem Tl.below {n₀ bt : Nat} {vs : Value} {l : List UInt8} {lg : Bool} (h : Tl n₀ bt vs l lg w) {w' : World} (hB : Below w.heap.size w w') : Tl n₀ bt vs l lg w' := by
  have hl := h.lt
  obtain ⟨h1, h2, vb, hb, ho⟩ := h
  exact ⟨h1, h2, vb, (hB.block _ hl).trans hb, row_below ho hB⟩

/-- A text put: is it too long then, and else what stands there. -/
def PutR (l : List UInt8) (lg : Bool) (x : List UInt8) (l' : List UInt8) (lg' : Bool) : Prop := (lg' = (lg || decide (4096 < l.length + x.length))) ∧ (lg' = false → l' = l ++ x)

theorem PutR.trans {l l1 l2 x y : List UInt8} {g g1 g2 : Bool} (h1 : PutR l g x l1 g1) (h2 : PutR l1 g1 y l2 g2) : PutR l g (x ++ y) l2 g2 := by
  obtain ⟨a1, b1⟩ := h1
  obtain ⟨a2, b2⟩ := h2
  cases g1 with
  | true =>
    simp at a2
    subst a2
    refine ⟨?_, fun h => by cases h⟩
    cases g with
    | true => rfl
    | false =>
      simp at a1 ⊢
      omega
  | false =>
    have e := b1 rfl
    subst e
    cases g with
    | true => simp at a1
    | false =>
      simp at a2
      refine ⟨?_, fun h => by rw [b2 h, List.append_assoc]⟩
      rw [a2]
      simp [Nat.add_assoc]

theorem PutR.nil (l : List UInt8) (g : Bool) (h : l.length ≤ 4096) : PutR l g [] l g := ⟨by cases g <;> simp; omega, fun _ => by simp⟩

/-- What is too long stays so, whatever would come. -/
theorem PutR.long {l l1 x : List UInt8} {g : Bool} (h : PutR l g x l1 true) (y : List UInt8) : PutR l g (x ++ y) l1 true := by
  obtain ⟨a, -⟩ := h
  refine ⟨?_, fun h => by cases h⟩
  cases g with
  | true => rfl
  | false =>
    simp at a ⊢
    omega

end Go.Proofs.YtgokofomoachaaaGreatDoor

namespace Go.Proofs.YtgokofomoachaaaGreatDoor
set_option linter.unusedVariables false
set_option linter.unusedSimpArgs false
open Go.RowKit

variable {w : World}

end Go.Proofs.YtgokofomoachaaaGreatDoor

namespace Go.Proofs.YtgokofomoachaaaGreatDoor
set_option linter.unusedVariables false
set_option linter.unusedSimpArgs false
open Go.RowKit

variable {w : World}

section
variable {w0 : World} {bt c : Nat} {p : Option Addr} {S : List Om} {d : Int} {R : Om → List UInt8}

end

end Go.Proofs.YtgokofomoachaaaGreatDoor

namespace Go.Proofs.YtgokofomoachaaaGreatDoor
set_option linter.unusedVariables false
set_option linter.unusedSimpArgs false
open Go.RowKit

variable {w : World}

section
variable {w0 : World} {bt c : Nat} {p : Option Addr} {S : List Om} {d : Int} {g : Vl → List UInt8}

end

end Go.Proofs.YtgokofomoachaaaGreatDoor

namespace Go.Proofs.YtgokofomoachaaaGreatDoor
set_option linter.unusedVariables false
set_option linter.unusedSimpArgs false
open Go.RowKit

variable {w : World}

end Go.Proofs.YtgokofomoachaaaGreatDoor

namespace Go.Proofs.YtgokofomoachaaaGreatDoor
set_option linter.unusedVariables false
set_option linter.unusedSimpArgs false
open Go.RowKit

variable {w : World}

theorem Ask.given {p : Option Addr} {S : List Om} (h : Ask w p S) (ht : Tab w) : Given w p S := ⟨h.st, Nat.le_trans h.len (by unfold maxLen; decide), h.str, h.fit, ht⟩

theorem Ask.wide {p : Option Addr} {S : List Om} (h : Ask w p S) : ∀ o ∈ S, o.l.length ≤ 1048576 := fun o ho => by have := h.vals o ho; omega

/-- A value's text, as a string. -/
def txV (S : List Om) (v : Vl) : ByteArray := ⟨(textB S v).toArray⟩

theorem txV_size (S : List Om) (v : Vl) : (txV S v).size = (textB S v).length := by
  show (textB S v).toArray.size = _
  simp

set_option maxRecDepth 20000 in
set_option maxHeartbeats 1000000 in
theorem Told_in {p : Option Addr} {S : List Om} (h : Ask w p S) (ht : Tab w) (c : Nat) (v : Vl) (hf : v.fits) (tx th : ByteArray)
    (hr : (v.k = 7 ∧ tx = ⟨#[]⟩ ∧ th = tKind) ∨ (v.k ≠ 7 ∧ 4096 < (textB S v).length ∧ tx = ⟨#[]⟩ ∧ th = tGreat) ∨ (v.k ≠ 7 ∧ (textB S v).length ≤ 4096 ∧ tx = txV S v ∧ th = ⟨#[]⟩)) :
    Calls Tryz.prog 178 #[.slice p S.length c, .agg #[.int .u8 v.k, .int .i64 v.n]] w fun e w' => e = .returned (.tuple #[.string tx, .string th]) ∧ Below w.heap.size w w' := by
  have hB := below1 w (.cells #[.int .u8 v.k, .int .i64 v.n] 27)
  obtain ⟨x0, x1⟩ := cell_row2 (heap_alloc_new w (.cells #[.int .u8 v.k, .int .i64 v.n] 27))
  rcases hr with ⟨h7, rfl, rfl⟩ | ⟨h7, hl, rfl, rfl⟩ | ⟨h7, hl, htx, rfl⟩
  · unfold tKind
    obtain ⟨vk, vn⟩ := v
    simp only at h7
    subst h7
    simp only [show ((7 : Nat) : Int) = 7 from rfl] at hB x0 x1 ⊢
    go_enter Tryz.func178, Tryz.ntmps178
    go_wp2
    go_ret2
    exact ⟨rfl, hB⟩
  · have HT := Text_long c ((h.below hB).given (ht.below hB)) h.wide v hf hl
    have h7' : ¬ ((v.k : Int) = 7) := by omega
    unfold tGreat
    clear hl h7
    go_enter Tryz.func178, Tryz.ntmps178
    go_wp2_with (first
      | (go_at_call 249; (with_reducible refine HT.mono ?_); clear HT; rintro e w1 ⟨rfl, hB1⟩))
    go_ret2
    exact ⟨rfl, hB.trans (hB1.mono hB.size)⟩
  · have HT := Text_fits c ((h.below hB).given (ht.below hB)) h.wide v hf hl
    have h7' : ¬ ((v.k : Int) = 7) := by omega
    unfold txV at htx
    rw [← htx] at HT
    clear hl h7 htx
    go_enter Tryz.func178, Tryz.ntmps178
    go_wp2_with (first
      | (go_at_call 249; (with_reducible refine HT.mono ?_); clear HT; rintro e w1 ⟨rfl, hB1⟩))
    go_ret2
    exact ⟨rfl, hB.trans (hB1.mono hB.size)⟩

/-- What Show works out. -/
def showD (S : List Om) (v : Vl) : Dd := if v.k = 7 then thrD tKind else if 4096 < (textB S v).length then thrD tGreat else makesD (txtO (txV S v))

def showP (S : List Om) (v : Vl) : Dv := if v.k = 7 then refD S else if 4096 < (textB S v).length then ⟨S, ⟨0, 0⟩, tGreat, 0⟩ else ⟨S ++ [txtO (txV S v)], ⟨3, (S.length : Int) + 1⟩, ⟨#[]⟩, (wordsO (txtO (txV S v)) : Nat)⟩

theorem showD_done (S : List Om) (v : Vl) : DoneR S (showD S v) (showP S v) := by
  unfold showD showP
  by_cases h7 : v.k = 7
  · rw [if_pos h7, if_pos h7]; exact DoneR.old (d := thrD tKind) rfl rfl
  · rw [if_neg h7, if_neg h7]
    by_cases hl : 4096 < (textB S v).length
    · rw [if_pos hl, if_pos hl]; exact DoneR.old (d := thrD tGreat) rfl rfl
    · rw [if_neg hl, if_neg hl]
      exact DoneR.new (d := makesD (txtO (txV S v))) (by simp [makesD, txtO]) rfl (by simp [makesD, txtO]) (by simp only [makesD, txtO]; rw [txV_size]; omega)

set_option maxRecDepth 20000 in
set_option maxHeartbeats 1000000 in
theorem Show_pl {p : Option Addr} {S : List Om} (h : Ask w p S) (ht : Tab w) (c : Nat) (v : Vl) (hf : v.fits) {d : Dd} (hd : d = showD S v) :
    Calls Tryz.prog 67 #[.slice p S.length c, .agg #[.int .u8 v.k, .int .i64 v.n]] w (DeedR w d) := by
  have hB := below2' w (.cells #[.int .u8 v.k, .int .i64 v.n] 27) (.cells #[.string ⟨#[]⟩, .int .i64 0, .int .u8 0, .int .i64 0, .int .u8 0, .string ⟨#[]⟩, .slice none 0 0, .int .i64 0, .int .i64 0, .int .i64 0, .int .i64 0, .slice none 0 0, .int .i64 0] 100)
  have hb0 := (Below.heap_alloc _ (.cells #[.string ⟨#[]⟩, .int .i64 0, .int .u8 0, .int .i64 0, .int .u8 0, .string ⟨#[]⟩, .slice none 0 0, .int .i64 0, .int .i64 0, .int .i64 0, .int .i64 0, .slice none 0 0, .int .i64 0] 100) w.heap.size (by simp)).trans (heap_alloc_new w (.cells #[.int .u8 v.k, .int .i64 v.n] 27))
  have hb := heap_two w (.cells #[.int .u8 v.k, .int .i64 v.n] 27) (.cells #[.string ⟨#[]⟩, .int .i64 0, .int .u8 0, .int .i64 0, .int .u8 0, .string ⟨#[]⟩, .slice none 0 0, .int .i64 0, .int .i64 0, .int .i64 0, .int .i64 0, .slice none 0 0, .int .i64 0] 100)
  obtain ⟨x0, x1⟩ := cell_row2 hb0
  unfold showD at hd
  by_cases h7 : v.k = 7
  · rw [if_pos h7] at hd
    have HT := Told_in (h.below hB) (ht.below hB) c v hf _ _ (.inl ⟨h7, rfl, rfl⟩)
    have HW := fun (W : World) => throwsD hd W
    unfold tKind at HT HW
    clear hd h7
    go_enter Tryz.func67, Tryz.ntmps67
    go_wp2_with (first
      | (go_at_call 178; (with_reducible refine HT.mono ?_); clear HT; rintro e w2 ⟨rfl, hB2⟩; have hb' := (hB2.block _ (Array.getElem?_eq_some_iff.1 hb).1).trans hb; have hB3 := hB.trans (hB2.mono hB.size); have H1 := HW w2)
      | (go_at_call 154; (with_reducible refine H1.mono ?_); clear H1; rintro e w1 ⟨q, c_, q2, rfl, h1, h2, hB1⟩; have hr := (hB1.block _ (Array.getElem?_eq_some_iff.1 hb').1).trans hb'; obtain ⟨⟨z0, z1, z2, z3, z4, z5, z6, z7, z8, z9, z10, z11, z12⟩, y0, y1, y2, y3, y4, y5, y6, y7, y8, y9, y10, y11, y12⟩ := cell_row13 hr))
    refine bodyPost_ret (results_cell_row (by rfl) _ _ (w.heap.size + 1) 100 _ _ _ (by rfl) (set13_row hr) Tryz.underlying100 (by rfl) infoDeed) (by rfl) ?_
    exact deed_fin hr (by omega) d h1 h2 (hB3.trans (hB1.mono hB3.size))
  · rw [if_neg h7] at hd
    by_cases hl : 4096 < (textB S v).length
    · rw [if_pos hl] at hd
      have HT := Told_in (h.below hB) (ht.below hB) c v hf _ _ (.inr (.inl ⟨h7, hl, rfl, rfl⟩))
      have HW := fun (W : World) => throwsD hd W
      unfold tGreat at HT HW
      clear hd h7 hl
      go_enter Tryz.func67, Tryz.ntmps67
      go_wp2_with (first
        | (go_at_call 178; (with_reducible refine HT.mono ?_); clear HT; rintro e w2 ⟨rfl, hB2⟩; have hb' := (hB2.block _ (Array.getElem?_eq_some_iff.1 hb).1).trans hb; have hB3 := hB.trans (hB2.mono hB.size); have H1 := HW w2)
        | (go_at_call 154; (with_reducible refine H1.mono ?_); clear H1; rintro e w1 ⟨q, c_, q2, rfl, h1, h2, hB1⟩; have hr := (hB1.block _ (Array.getElem?_eq_some_iff.1 hb').1).trans hb'; obtain ⟨⟨z0, z1, z2, z3, z4, z5, z6, z7, z8, z9, z10, z11, z12⟩, y0, y1, y2, y3, y4, y5, y6, y7, y8, y9, y10, y11, y12⟩ := cell_row13 hr))
      refine bodyPost_ret (results_cell_row (by rfl) _ _ (w.heap.size + 1) 100 _ _ _ (by rfl) (set13_row hr) Tryz.underlying100 (by rfl) infoDeed) (by rfl) ?_
      exact deed_fin hr (by omega) d h1 h2 (hB3.trans (hB1.mono hB3.size))
    · rw [if_neg hl] at hd
      have HT := Told_in (h.below hB) (ht.below hB) c v hf _ _ (.inr (.inr ⟨h7, by omega, rfl, rfl⟩))
      have HW := fun (W : World) => Text_ok (txV S v) W (by rw [txV_size]; omega) hd
      generalize txV S v = tx at HT HW
      clear hd h7 hl
      go_enter Tryz.func67, Tryz.ntmps67
      go_wp2_with (first
        | (go_at_call 178; (with_reducible refine HT.mono ?_); clear HT; rintro e w2 ⟨rfl, hB2⟩; have hb' := (hB2.block _ (Array.getElem?_eq_some_iff.1 hb).1).trans hb; have hB3 := hB.trans (hB2.mono hB.size); have H1 := HW w2)
        | (go_at_call 70; (with_reducible refine H1.mono ?_); clear H1; rintro e w1 ⟨q, c_, q2, rfl, h1, h2, hB1⟩; have hr := (hB1.block _ (Array.getElem?_eq_some_iff.1 hb').1).trans hb'; obtain ⟨⟨z0, z1, z2, z3, z4, z5, z6, z7, z8, z9, z10, z11, z12⟩, y0, y1, y2, y3, y4, y5, y6, y7, y8, y9, y10, y11, y12⟩ := cell_row13 hr))
      refine bodyPost_ret (results_cell_row (by rfl) _ _ (w.heap.size + 1) 100 _ _ _ (by rfl) (set13_row hr) Tryz.underlying100 (by rfl) infoDeed) (by rfl) ?_
      exact deed_fin hr (by omega) d h1 h2 (hB3.trans (hB1.mono hB3.size))

end Go.Proofs.YtgokofomoachaaaGreatDoor
