/- The program's instructions: span, mayBe. -/
import Derived.Test.YtnekcomkochmjaaGreatDoorVfPMakes
import Derived.Test.YtnekcomkochmjaaGreatDoorVfPNext
namespace Go.Proofs.YtnekcomkochmjaaGreatDoor
set_option linter.unusedVariables false
set_option linter.unusedSimpArgs false
open Go.RowKit Go.Maps

variable {w : World}

/-- The least and the greatest number of a kind. -/
def spanP (nf : Nat) (f : Fm) (pc k : Nat) : Int × Int :=
  if k = 2 then (0, (f.consts.length : Int) - 1) else if k = 3 then (0, f.locals - 1) else if k = 4 then (0, (f.caps.length : Int) - 1) else if k = 5 then (1, 9)
  else if k = 6 then ((pc : Int) + 1, (f.code.length : Int) - 1) else if k = 7 then (0, (pc : Int)) else if k = 8 then (0, 256) else if k = 9 then (1, (nf : Int) - 1) else (0, 0)

theorem number_row {nf : Nat} {f : Fm} {pc : Nat} {i : In} : numberP nf f pc i = (rowOk i.op && decide ((spanP nf f pc (rowP i.op).number).1 ≤ i.a ∧ i.a ≤ (spanP nf f pc (rowP i.op).number).2)) := by
  obtain ⟨op, a⟩ := i
  by_cases h : op < 31
  · rcases op_cases h with rfl | rfl | rfl | rfl | rfl | rfl | rfl | rfl | rfl | rfl | rfl | rfl | rfl | rfl | rfl | rfl | rfl | rfl | rfl | rfl | rfl | rfl | rfl | rfl | rfl | rfl | rfl | rfl | rfl | rfl | rfl <;> (simp [numberP, rowOk, rowP, rowsL, spanP] <;> rw [Bool.eq_iff_iff] <;> simp <;> omega)
  · unfold numberP rowOk
    simp only [rowP_over h]
    repeat rw [if_neg (by omega)]
    rw [decide_eq_false (by omega)]
    rfl

theorem ends_row {op : Nat} (h : (rowP op).ends = true) : endsP op = true ∨ op = 19 := by
  by_cases h31 : op < 31
  · rcases op_cases h31 with rfl | rfl | rfl | rfl | rfl | rfl | rfl | rfl | rfl | rfl | rfl | rfl | rfl | rfl | rfl | rfl | rfl | rfl | rfl | rfl | rfl | rfl | rfl | rfl | rfl | rfl | rfl | rfl | rfl | rfl | rfl <;> simp [rowP, rowsL] at h <;> simp [endsP]
  · rw [rowP_over h31] at h
    cases h

theorem row_ends {op : Nat} (h : endsP op = true) : (rowP op).ends = true := by
  unfold endsP at h
  simp at h
  rcases h with rfl | rfl | rfl <;> rfl

set_option maxRecDepth 20000 in
set_option maxHeartbeats 4000000 in
theorem span_in {bc b0 o off c k pc : Nat} {nf : Nat} {p : Option Addr} {f : Fm} {s : Fs} (hk : k ≤ 9) (hcf : w.cell? ⟨bc, 0, none⟩ = some (.slice p nf c)) (hp : FnP w b0 o f s) (hl0 : 0 ≤ f.locals) (hl1 : f.locals ≤ 64) (hnf : nf ≤ 256) (hpc : pc < f.code.length) (hcl : f.code.length ≤ 16384) (hkl : f.consts.length ≤ 16384) (hcp : f.caps.length ≤ 4096) :
    Calls Tryz.prog 49 #[.pointer (some ⟨bc, 0, none⟩), .int .u8 k, .pointer (some ⟨b0, o, none⟩), .int .i64 pc] w fun e w' => e = .returned (.tuple #[.int .i64 (spanP nf f pc k).1, .int .i64 (spanP nf f pc k).2]) ∧ Below w.heap.size w w' := by
  have c2 := hp.cell 2 _ rfl
  have c3 := hp.cell 3 _ rfl
  have c4 := hp.cell 4 _ rfl
  have c5 := hp.cell 5 _ rfl
  clear hp
  have hk10 : k = 0 ∨ k = 1 ∨ k = 2 ∨ k = 3 ∨ k = 4 ∨ k = 5 ∨ k = 6 ∨ k = 7 ∨ k = 8 ∨ k = 9 := by omega
  rcases hk10 with rfl | rfl | rfl | rfl | rfl | rfl | rfl | rfl | rfl | rfl
  · clear hk
    simp only [spanP]
    go_enter Tryz.func49, Tryz.ntmps49
    go_wp2
    go_ret2
    exact ⟨rfl, Below.refl _ _⟩
  · clear hk
    simp only [spanP]
    go_enter Tryz.func49, Tryz.ntmps49
    go_wp2
    go_ret2
    exact ⟨rfl, Below.refl _ _⟩
  · clear hk
    simp only [spanP]
    go_enter Tryz.func49, Tryz.ntmps49
    go_wp2
    go_quiet (fail)
    go_wp2
    go_ret2
    exact ⟨rfl, below_drewN (Below.refl _ _) _⟩
  · clear hk
    simp only [spanP]
    go_enter Tryz.func49, Tryz.ntmps49
    go_wp2
    go_quiet (fail)
    go_wp2
    go_ret2
    exact ⟨rfl, below_drewN (Below.refl _ _) _⟩
  · clear hk
    simp only [spanP]
    go_enter Tryz.func49, Tryz.ntmps49
    go_wp2
    go_quiet (fail)
    go_wp2
    go_ret2
    exact ⟨rfl, below_drewN (Below.refl _ _) _⟩
  · clear hk
    simp only [spanP]
    go_enter Tryz.func49, Tryz.ntmps49
    go_wp2
    go_ret2
    exact ⟨rfl, Below.refl _ _⟩
  · clear hk
    simp only [spanP]
    go_enter Tryz.func49, Tryz.ntmps49
    go_wp2
    go_quiet (fail)
    go_wp2
    go_ret2
    exact ⟨rfl, below_drewN (Below.refl _ _) _⟩
  · clear hk
    simp only [spanP]
    go_enter Tryz.func49, Tryz.ntmps49
    go_wp2
    go_ret2
    exact ⟨rfl, Below.refl _ _⟩
  · clear hk
    simp only [spanP]
    go_enter Tryz.func49, Tryz.ntmps49
    go_wp2
    go_ret2
    exact ⟨rfl, Below.refl _ _⟩
  · clear hk
    simp only [spanP]
    go_enter Tryz.func49, Tryz.ntmps49
    go_wp2
    go_quiet (fail)
    go_wp2
    go_ret2
    exact ⟨rfl, below_drewN (Below.refl _ _) _⟩

end Go.Proofs.YtnekcomkochmjaaGreatDoor

namespace Go.Proofs.YtnekcomkochmjaaGreatDoor
set_option linter.unusedVariables false
set_option linter.unusedSimpArgs false
open Go.RowKit Go.Maps

variable {w : World}

/-- What mayBe answers. -/
def MayR (w0 : World) (bc bm b0 off c : Nat) (fs : List Fm) (nm n pc : Nat) (f : Fm) (i : In) (mk : List Int) (e : Ending) (w' : World) : Prop :=
  e = .returned (.bool (insP fs n f mk pc i)) ∧ Below w0.heap.size w0 w' ∧ (insP fs n f mk pc i = true → ∃ nm', nm' ≤ nm + 1 ∧ Cr w0 w' bc bm b0 off c fs nm' (mkP n mk i) ∧ MkOk fs (mkP n mk i))

theorem MayR.no {w0 w' : World} {bc bm b0 off c nm n pc : Nat} {fs : List Fm} {f : Fm} {i : In} {mk : List Int} (h : insP fs n f mk pc i = false) (hB : Below w0.heap.size w0 w') : MayR w0 bc bm b0 off c fs nm n pc f i mk (.returned (.bool false)) w' :=
  ⟨by rw [h], hB, fun q => by rw [h] at q; cases q⟩

theorem MayR.yes {w0 w' : World} {bc bm b0 off c nm n pc : Nat} {fs : List Fm} {f : Fm} {i : In} {mk : List Int} (h : insP fs n f mk pc i = true) (h26 : i.op ≠ 26) (hc : Cr w0 w' bc bm b0 off c fs nm mk) (hok : MkOk fs mk) : MayR w0 bc bm b0 off c fs nm n pc f i mk (.returned (.bool true)) w' := by
  have e : mkP n mk i = mk := by unfold mkP; rw [if_neg h26]
  exact ⟨by rw [h], hc.bel, fun _ => ⟨nm, by omega, by rw [e]; exact hc, by rw [e]; exact hok⟩⟩

theorem cell_row54 {W : World} {g : Nat} {a b c d e : Value} {t : TypeId} (h : W.heap[g]? = some (.cells #[a, b, c, d, e] t (0, 0))) : W.cell? ⟨g, 4, none⟩ = some e := by rw [cell_of_row W g 4 _ _ _ h]; rfl

set_option maxRecDepth 20000 in
set_option maxHeartbeats 8000000 in
theorem mayBe_in {w0 : World} {bc bm b0 off c nm n pc : Nat} {fs : List Fm} {mk : List Int} {f : Fm} {i : In} (h : Cr w0 w bc bm b0 off c fs nm mk) (hp : PrgP w0 b0 off fs) (hok : MkOk fs mk) (hml : mk.length = fs.length) (hl : fs.length ≤ 256) (hn : fs[n]? = some f) (hi : f.code[pc]? = some i) (ho : i.op < 256) (hlo : ∀ k, -1 ≤ mk.getD k (-1) ∧ mk.getD k (-1) ≤ 256) (hnm : nm ≤ 1099511627776) (hcl : ∀ g ∈ fs, g.caps.length ≤ 1099511627776)
    (ht : RowsT w0) (hl0 : 0 ≤ f.locals) (hl1 : f.locals ≤ 64) (hk1 : f.code.length ≤ 16384) (hk2 : f.consts.length ≤ 16384) (hk3 : f.caps.length ≤ 4096) :
    Calls Tryz.prog 26 #[.pointer (some ⟨bc, 0, none⟩), .int .i64 n, .int .i64 pc] w fun e w' => MayR w0 bc bm b0 off c fs nm n pc f i mk e w' := by
  have hnl := (List.getElem?_eq_some_iff.1 hn).1
  have hpl := (List.getElem?_eq_some_iff.1 hi).1
  obtain ⟨s, fp0⟩ := hp n f hn
  have hnl' : (n : Int) < (fs.length : Int) := by omega
  have hpl' : (pc : Int) < (f.code.length : Int) := by omega
  obtain ⟨bi, oi, hqi, -, -⟩ := fp0.fn.code.look2 (Below.refl _ _) hi
  have FC : Hid (∀ W, Below w0.heap.size w0 W → W.cell? ⟨b0, off + n * 8 + 5, none⟩ = some (.slice (some ⟨bi, oi, none⟩) f.code.length s.ci) ∧ W.cell? ⟨bi, oi + pc * 2, none⟩ = some (.int .u8 i.op) ∧ W.cell? ⟨bi, oi + pc * 2 + 1, none⟩ = some (.int .i64 i.a)) := fun W hB => by
    have f1 := fp0.below hB
    obtain ⟨b1, o1, e1, q1, q2⟩ := f1.fn.code.look2 (Below.refl _ _) hi
    rw [hqi] at e1
    simp only [Option.some.injEq, Addr.mk.injEq] at e1
    obtain ⟨rfl, rfl, _⟩ := e1
    exact ⟨by rw [f1.cell 5 _ rfl, hqi], q1, q2⟩
  have CC : Hid (∀ W, Below w.heap.size w W → W.cell? ⟨bc, 0, none⟩ = some (.slice (some ⟨b0, off, none⟩) fs.length c)) := fun W hB => (cell_row2 (h.kept hB).cb).1.1
  have HW : Hid (∀ W, Below w.heap.size w W → Below w0.heap.size w0 W) := fun W hB => h.bel.trans (hB.mono h.bel.size)
  obtain ⟨a0, a1, a2⟩ := FC.out _ h.bel
  have ac := CC.out _ (Below.refl _ _)
  have HR := fun (W : World) (hB : Below w.heap.size w W) => rowOf_in i.op ho (ht.below (HW.out _ hB))
  have HS := fun (W : World) (hB : Below w.heap.size w W) => span_in (w := W) (bc := bc) (b0 := b0) (o := off + n * 8) (off := off) (c := c) (k := (rowP i.op).number) (pc := pc) (nf := fs.length) (row_small i.op).1 (CC.out _ hB) (fp0.below (HW.out _ hB)) hl0 hl1 hl hpl hk1 hk2 hk3
  have HNR := number_row (nf := fs.length) (f := f) (pc := pc) (i := i)
  have hE1 := ends_row (op := i.op)
  have hE2 := row_ends (op := i.op)
  have HM := fun (W : World) (m : Nat) (g : Fm) (hB : Below w.heap.size w W) (hm : fs[m]? = some g) => makes_in (h.kept hB) hp hok hml hl hn hm hlo hnm (hcl g (List.mem_of_getElem? hm))
  have HH : Hid _ := And.intro h (And.intro hok (And.intro hml hn))
  have hBn := fun (o : Obj) => below1 w o
  have hins : insP fs n f mk pc i = (numberP fs.length f pc i && (decide (pc + 1 ≠ f.code.length) || endsP i.op) && (decide (i.op ≠ 26) || (decide (mk.getD i.a.toNat (-1) < 0 ∨ mk.getD i.a.toNat (-1) = n) && match fs[i.a.toNat]? with | some made => capsP f made | none => false))) := rfl
  have h19 : i.op = 19 → numberP fs.length f pc i = true → pc + 1 < f.code.length := fun e q => by
    unfold numberP at q
    simp [e] at q
    omega
  have h26 : i.op = 26 → numberP fs.length f pc i = true → 1 ≤ i.a ∧ i.a < fs.length := fun e q => by
    unfold numberP at q
    simp [e] at q
    omega
  generalize spanP fs.length f pc (rowP i.op).number = sp at HS HNR
  obtain ⟨least, most⟩ := sp
  generalize rowOk i.op = rk at HR HNR
  unfold rwA at HR
  generalize rowP i.op = r at *
  obtain ⟨num, t, ea, lv, en⟩ := r
  obtain ⟨op, a⟩ := i
  simp only at *
  have HIN : Hid _ := hins
  clear h hp hok hml hlo hcl fp0 hqi hi hn hins
  obtain ⟨z26, hz26⟩ : ∃ z, z = (26 : Nat) := ⟨_, rfl⟩
  cases rk with
  | false =>
    have hf : insP fs n f mk pc ⟨op, a⟩ = false := by rw [HIN.out, HNR]; simp
    clear HS HM HNR
    go_enter Tryz.func26, Tryz.ntmps26
    go_wp2_with (first
      | (go_at_call 48; (with_reducible refine (HR _ (hBn _)).mono ?_); clear HR; rintro e w1 ⟨rfl, hw1⟩; have hB1 : Below w.heap.size w w1 := (hBn (.cells #[.int .u8 op, .int .i64 a] 38)).trans (hw1.mono (hBn _).size); have hzl := Nat.lt_of_lt_of_le (show w.heap.size < (w.alloc (.cells #[.int .u8 op, .int .i64 a] 38)).heap.size by simp) hw1.size; have hzi := (hw1.block w.heap.size (by simp)).trans (heap_alloc_new w (.cells #[.int .u8 op, .int .i64 a] 38)); have hB2 := fun (o : Obj) => hB1.alloc hB1.size o; have y0 := fun (o : Obj) => (cell_row2 ((Below.heap_alloc w1 o w.heap.size hzl).trans hzi)).1.1; have y1 := fun (o : Obj) => (cell_row2 ((Below.heap_alloc w1 o w.heap.size hzl).trans hzi)).1.2))
    go_ret
    exact MayR.no hf (HW.out _ (hB2 _))
  | true =>
    by_cases q1 : a < least
    · have hf : insP fs n f mk pc ⟨op, a⟩ = false := by rw [HIN.out, HNR]; simp; omega
      clear HM HNR
      go_enter Tryz.func26, Tryz.ntmps26
      go_wp2_with (first
        | (go_at_call 48; (with_reducible refine (HR _ (hBn _)).mono ?_); clear HR; rintro e w1 ⟨rfl, hw1⟩; have hB1 : Below w.heap.size w w1 := (hBn (.cells #[.int .u8 op, .int .i64 a] 38)).trans (hw1.mono (hBn _).size); have hzl := Nat.lt_of_lt_of_le (show w.heap.size < (w.alloc (.cells #[.int .u8 op, .int .i64 a] 38)).heap.size by simp) hw1.size; have hzi := (hw1.block w.heap.size (by simp)).trans (heap_alloc_new w (.cells #[.int .u8 op, .int .i64 a] 38)); have hB2 := fun (o : Obj) => hB1.alloc hB1.size o; have y0 := fun (o : Obj) => (cell_row2 ((Below.heap_alloc w1 o w.heap.size hzl).trans hzi)).1.1; have y1 := fun (o : Obj) => (cell_row2 ((Below.heap_alloc w1 o w.heap.size hzl).trans hzi)).1.2)
        | (go_at_call 49; (with_reducible refine (HS _ (hB2 _)).mono ?_); clear HS; rintro e w3 ⟨rfl, hw3⟩; have hB3 : Below w.heap.size w w3 := (hB2 (.cells #[.int .u8 num, .int .u8 t, .int .u8 ea, .int .u8 lv, .bool en] 114)).trans (hw3.mono (hB2 _).size); have hs2 := hw3.size; have hzr := (hw3.block w1.heap.size (by simp)).trans (heap_alloc_new w1 (.cells #[.int .u8 num, .int .u8 t, .int .u8 ea, .int .u8 lv, .bool en] 114)); have hzi3 := (hw3.block w.heap.size (by simp; omega)).trans ((Below.heap_alloc w1 (.cells #[.int .u8 num, .int .u8 t, .int .u8 ea, .int .u8 lv, .bool en] 114) w.heap.size hzl).trans hzi); have u4 := cell_row54 hzr; obtain ⟨⟨v0, v1⟩, -⟩ := cell_row2 hzi3; have f5 := (FC.out _ (HW.out _ hB3)).1))
      go_ret
      exact MayR.no hf (HW.out _ hB3)
    have q1' : ¬ (a < least) := q1
    by_cases q2 : most < a
    · have hf : insP fs n f mk pc ⟨op, a⟩ = false := by rw [HIN.out, HNR]; simp; omega
      clear HM HNR q1
      go_enter Tryz.func26, Tryz.ntmps26
      go_wp2_with (first
        | (go_at_call 48; (with_reducible refine (HR _ (hBn _)).mono ?_); clear HR; rintro e w1 ⟨rfl, hw1⟩; have hB1 : Below w.heap.size w w1 := (hBn (.cells #[.int .u8 op, .int .i64 a] 38)).trans (hw1.mono (hBn _).size); have hzl := Nat.lt_of_lt_of_le (show w.heap.size < (w.alloc (.cells #[.int .u8 op, .int .i64 a] 38)).heap.size by simp) hw1.size; have hzi := (hw1.block w.heap.size (by simp)).trans (heap_alloc_new w (.cells #[.int .u8 op, .int .i64 a] 38)); have hB2 := fun (o : Obj) => hB1.alloc hB1.size o; have y0 := fun (o : Obj) => (cell_row2 ((Below.heap_alloc w1 o w.heap.size hzl).trans hzi)).1.1; have y1 := fun (o : Obj) => (cell_row2 ((Below.heap_alloc w1 o w.heap.size hzl).trans hzi)).1.2)
        | (go_at_call 49; (with_reducible refine (HS _ (hB2 _)).mono ?_); clear HS; rintro e w3 ⟨rfl, hw3⟩; have hB3 : Below w.heap.size w w3 := (hB2 (.cells #[.int .u8 num, .int .u8 t, .int .u8 ea, .int .u8 lv, .bool en] 114)).trans (hw3.mono (hB2 _).size); have hs2 := hw3.size; have hzr := (hw3.block w1.heap.size (by simp)).trans (heap_alloc_new w1 (.cells #[.int .u8 num, .int .u8 t, .int .u8 ea, .int .u8 lv, .bool en] 114)); have hzi3 := (hw3.block w.heap.size (by simp; omega)).trans ((Below.heap_alloc w1 (.cells #[.int .u8 num, .int .u8 t, .int .u8 ea, .int .u8 lv, .bool en] 114) w.heap.size hzl).trans hzi); have u4 := cell_row54 hzr; obtain ⟨⟨v0, v1⟩, -⟩ := cell_row2 hzi3; have f5 := (FC.out _ (HW.out _ hB3)).1))
      go_ret
      exact MayR.no hf (HW.out _ hB3)
    have q2' : ¬ (most < a) := q2
    have hnum : numberP fs.length f pc ⟨op, a⟩ = true := by rw [HNR]; simp; omega
    by_cases q3 : pc + 1 = f.code.length
    · have e3 : ((pc : Int) == (f.code.length : Int) - 1) = true := by simp; omega
      cases en with
      | false =>
        have hf : insP fs n f mk pc ⟨op, a⟩ = false := by
          have : endsP op = false := by cases q : endsP op with
            | false => rfl
            | true => exact absurd (hE2 q) (by simp)
          rw [HIN.out, this]
          simp [q3]
        clear HM HNR q1 q2 q3
        go_enter Tryz.func26, Tryz.ntmps26
        go_wp2_with (first
          | (go_at_call 48; (with_reducible refine (HR _ (hBn _)).mono ?_); clear HR; rintro e w1 ⟨rfl, hw1⟩; have hB1 : Below w.heap.size w w1 := (hBn (.cells #[.int .u8 op, .int .i64 a] 38)).trans (hw1.mono (hBn _).size); have hzl := Nat.lt_of_lt_of_le (show w.heap.size < (w.alloc (.cells #[.int .u8 op, .int .i64 a] 38)).heap.size by simp) hw1.size; have hzi := (hw1.block w.heap.size (by simp)).trans (heap_alloc_new w (.cells #[.int .u8 op, .int .i64 a] 38)); have hB2 := fun (o : Obj) => hB1.alloc hB1.size o; have y0 := fun (o : Obj) => (cell_row2 ((Below.heap_alloc w1 o w.heap.size hzl).trans hzi)).1.1; have y1 := fun (o : Obj) => (cell_row2 ((Below.heap_alloc w1 o w.heap.size hzl).trans hzi)).1.2)
          | (go_at_call 49; (with_reducible refine (HS _ (hB2 _)).mono ?_); clear HS; rintro e w3 ⟨rfl, hw3⟩; have hB3 : Below w.heap.size w w3 := (hB2 (.cells #[.int .u8 num, .int .u8 t, .int .u8 ea, .int .u8 lv, .bool false] 114)).trans (hw3.mono (hB2 _).size); have hs2 := hw3.size; have hzr := (hw3.block w1.heap.size (by simp)).trans (heap_alloc_new w1 (.cells #[.int .u8 num, .int .u8 t, .int .u8 ea, .int .u8 lv, .bool false] 114)); have hzi3 := (hw3.block w.heap.size (by simp; omega)).trans ((Below.heap_alloc w1 (.cells #[.int .u8 num, .int .u8 t, .int .u8 ea, .int .u8 lv, .bool false] 114) w.heap.size hzl).trans hzi); have u4 := cell_row54 hzr; obtain ⟨⟨v0, v1⟩, -⟩ := cell_row2 hzi3; have f5 := (FC.out _ (HW.out _ hB3)).1))
        go_ret
        exact MayR.no hf (HW.out _ hB3)
      | true =>
        have hen : endsP op = true := by
          rcases hE1 rfl with q | q
          · exact q
          · have := h19 q hnum; omega
        have hn26 : op ≠ 26 := by rintro rfl; simp [endsP] at hen
        have e26 : ((op : Int) != 26) = true := by simp; omega
        have hf : insP fs n f mk pc ⟨op, a⟩ = true := by rw [HIN.out, hnum, hen]; simp [hn26]
        clear HM HNR q1 q2 q3
        go_enter Tryz.func26, Tryz.ntmps26
        go_wp2_with (first
          | (go_at_call 48; (with_reducible refine (HR _ (hBn _)).mono ?_); clear HR; rintro e w1 ⟨rfl, hw1⟩; have hB1 : Below w.heap.size w w1 := (hBn (.cells #[.int .u8 op, .int .i64 a] 38)).trans (hw1.mono (hBn _).size); have hzl := Nat.lt_of_lt_of_le (show w.heap.size < (w.alloc (.cells #[.int .u8 op, .int .i64 a] 38)).heap.size by simp) hw1.size; have hzi := (hw1.block w.heap.size (by simp)).trans (heap_alloc_new w (.cells #[.int .u8 op, .int .i64 a] 38)); have hB2 := fun (o : Obj) => hB1.alloc hB1.size o; have y0 := fun (o : Obj) => (cell_row2 ((Below.heap_alloc w1 o w.heap.size hzl).trans hzi)).1.1; have y1 := fun (o : Obj) => (cell_row2 ((Below.heap_alloc w1 o w.heap.size hzl).trans hzi)).1.2)
          | (go_at_call 49; (with_reducible refine (HS _ (hB2 _)).mono ?_); clear HS; rintro e w3 ⟨rfl, hw3⟩; have hB3 : Below w.heap.size w w3 := (hB2 (.cells #[.int .u8 num, .int .u8 t, .int .u8 ea, .int .u8 lv, .bool true] 114)).trans (hw3.mono (hB2 _).size); have hs2 := hw3.size; have hzr := (hw3.block w1.heap.size (by simp)).trans (heap_alloc_new w1 (.cells #[.int .u8 num, .int .u8 t, .int .u8 ea, .int .u8 lv, .bool true] 114)); have hzi3 := (hw3.block w.heap.size (by simp; omega)).trans ((Below.heap_alloc w1 (.cells #[.int .u8 num, .int .u8 t, .int .u8 ea, .int .u8 lv, .bool true] 114) w.heap.size hzl).trans hzi); have u4 := cell_row54 hzr; obtain ⟨⟨v0, v1⟩, -⟩ := cell_row2 hzi3; have f5 := (FC.out _ (HW.out _ hB3)).1))
        go_ret
        exact MayR.yes hf hn26 (HH.out.1.kept hB3) HH.out.2.1
    have e3 : ((pc : Int) == (f.code.length : Int) - 1) = false := by simp; omega
    by_cases q4 : op = 26
    · have e26 : ((op : Int) != 26) = false := by simp; omega
      obtain ⟨b1, b2⟩ := h26 q4 hnum
      obtain ⟨m, hm⟩ : ∃ m : Nat, a = (m : Int) := ⟨a.toNat, by omega⟩
      subst hm
      obtain ⟨g, hg⟩ : ∃ g, fs[m]? = some g := ⟨fs[m]'(by omega), by simp⟩
      have HM2 := fun (W : World) (hB : Below w.heap.size w W) => HM W m g hB hg
      have hf : insP fs n f mk pc ⟨op, (m : Int)⟩ = makesB fs n f g mk m := by
        rw [HIN.out, hnum]
        unfold makesB
        simp [q4, q3, hg]
      have hmk : mkP n mk ⟨op, (m : Int)⟩ = mk.set m n := by unfold mkP; simp [q4]
      have HF : Hid _ := And.intro hf hmk
      clear HM HNR q1 q2 q3 q4 hf hmk
      go_enter Tryz.func26, Tryz.ntmps26
      go_wp2_with (first
        | (go_at_call 48; (with_reducible refine (HR _ (hBn _)).mono ?_); clear HR; rintro e w1 ⟨rfl, hw1⟩; have hB1 : Below w.heap.size w w1 := (hBn (.cells #[.int .u8 op, .int .i64 (m : Int)] 38)).trans (hw1.mono (hBn _).size); have hzl := Nat.lt_of_lt_of_le (show w.heap.size < (w.alloc (.cells #[.int .u8 op, .int .i64 (m : Int)] 38)).heap.size by simp) hw1.size; have hzi := (hw1.block w.heap.size (by simp)).trans (heap_alloc_new w (.cells #[.int .u8 op, .int .i64 (m : Int)] 38)); have hB2 := fun (o : Obj) => hB1.alloc hB1.size o; have y0 := fun (o : Obj) => (cell_row2 ((Below.heap_alloc w1 o w.heap.size hzl).trans hzi)).1.1; have y1 := fun (o : Obj) => (cell_row2 ((Below.heap_alloc w1 o w.heap.size hzl).trans hzi)).1.2)
        | (go_at_call 49; (with_reducible refine (HS _ (hB2 _)).mono ?_); clear HS; rintro e w3 ⟨rfl, hw3⟩; have hB3 : Below w.heap.size w w3 := (hB2 (.cells #[.int .u8 num, .int .u8 t, .int .u8 ea, .int .u8 lv, .bool en] 114)).trans (hw3.mono (hB2 _).size); have hs2 := hw3.size; have hzr := (hw3.block w1.heap.size (by simp)).trans (heap_alloc_new w1 (.cells #[.int .u8 num, .int .u8 t, .int .u8 ea, .int .u8 lv, .bool en] 114)); have hzi3 := (hw3.block w.heap.size (by simp; omega)).trans ((Below.heap_alloc w1 (.cells #[.int .u8 num, .int .u8 t, .int .u8 ea, .int .u8 lv, .bool en] 114) w.heap.size hzl).trans hzi); have u4 := cell_row54 hzr; obtain ⟨⟨v0, v1⟩, -⟩ := cell_row2 hzi3; have f5 := (FC.out _ (HW.out _ hB3)).1)
        | (go_at_call 50; (with_reducible refine (HM2 _ hB3).mono ?_); clear HM2; rintro e w5 ⟨rfl, hb5, hc5⟩))
      go_ret
      obtain ⟨hf, hmk⟩ := HF.out
      exact ⟨by rw [hf]; rfl, hb5, fun q => by rw [hf] at q; rw [hmk]; exact hc5 q⟩
    · have e26 : ((op : Int) != 26) = true := by simp; omega
      have hf : insP fs n f mk pc ⟨op, a⟩ = true := by rw [HIN.out, hnum]; simp [q4, q3]
      have hn26 : op ≠ 26 := q4
      clear HM HNR q1 q2 q3 q4
      go_enter Tryz.func26, Tryz.ntmps26
      go_wp2_with (first
        | (go_at_call 48; (with_reducible refine (HR _ (hBn _)).mono ?_); clear HR; rintro e w1 ⟨rfl, hw1⟩; have hB1 : Below w.heap.size w w1 := (hBn (.cells #[.int .u8 op, .int .i64 a] 38)).trans (hw1.mono (hBn _).size); have hzl := Nat.lt_of_lt_of_le (show w.heap.size < (w.alloc (.cells #[.int .u8 op, .int .i64 a] 38)).heap.size by simp) hw1.size; have hzi := (hw1.block w.heap.size (by simp)).trans (heap_alloc_new w (.cells #[.int .u8 op, .int .i64 a] 38)); have hB2 := fun (o : Obj) => hB1.alloc hB1.size o; have y0 := fun (o : Obj) => (cell_row2 ((Below.heap_alloc w1 o w.heap.size hzl).trans hzi)).1.1; have y1 := fun (o : Obj) => (cell_row2 ((Below.heap_alloc w1 o w.heap.size hzl).trans hzi)).1.2)
        | (go_at_call 49; (with_reducible refine (HS _ (hB2 _)).mono ?_); clear HS; rintro e w3 ⟨rfl, hw3⟩; have hB3 : Below w.heap.size w w3 := (hB2 (.cells #[.int .u8 num, .int .u8 t, .int .u8 ea, .int .u8 lv, .bool en] 114)).trans (hw3.mono (hB2 _).size); have hs2 := hw3.size; have hzr := (hw3.block w1.heap.size (by simp)).trans (heap_alloc_new w1 (.cells #[.int .u8 num, .int .u8 t, .int .u8 ea, .int .u8 lv, .bool en] 114)); have hzi3 := (hw3.block w.heap.size (by simp; omega)).trans ((Below.heap_alloc w1 (.cells #[.int .u8 num, .int .u8 t, .int .u8 ea, .int .u8 lv, .bool en] 114) w.heap.size hzl).trans hzi); have u4 := cell_row54 hzr; obtain ⟨⟨v0, v1⟩, -⟩ := cell_row2 hzi3; have f5 := (FC.out _ (HW.out _ hB3)).1))
      go_ret
      exact MayR.yes hf hn26 (HH.out.1.kept hB3) HH.out.2.1

end Go.Proofs.YtnekcomkochmjaaGreatDoor
