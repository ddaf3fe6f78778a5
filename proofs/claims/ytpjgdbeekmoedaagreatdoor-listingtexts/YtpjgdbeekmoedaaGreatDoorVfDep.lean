/- The document's tell, Nexts (gearboxref09). -/
import Derived.Test.YtpjgdbeekmoedaaGreatDoorVfRow
import Derived.Test.YtpjgdbeekmoedaaGreatDoorVfMath
import Derived.Test.YtpjgdbeekmoedaaGreatDoorVfFn
namespace Go.Proofs.YtpjgdbeekmoedaaGreatDoor
set_option linter.unusedVariables false
set_option linter.unusedSimpArgs false
open Go.RowKit

variable {w : World}

/-- The teller in memory. -/
structure Tl (W : World) (base bt gt ct : Nat) (told : List Int) (bad : Bool) : Prop where
  tb : W.heap[bt]? = some (.cells #[.slice (some ⟨gt, 0, none⟩) told.length ct, .bool bad] 129 (0, 0))
  row : NumRow base gt ct told W

theorem Tl.ne {W : World} {base bt gt ct : Nat} {told : List Int} {bad : Bool} (h : Tl W base bt gt ct told bad) : bt ≠ gt := by
  intro e
  obtain ⟨cur, hc, _⟩ := h.row.obj
  have := h.tb
  rw [e, hc] at this
  simp at this

theorem Tl.kept {W W' : World} {base bt gt ct : Nat} {told : List Int} {bad : Bool} (h : Tl W base bt gt ct told bad) (h1 : W'.heap[bt]? = W.heap[bt]?) (h2 : W'.heap[gt]? = W.heap[gt]?) : Tl W' base bt gt ct told bad := ⟨h1.trans h.tb, h.row.kept h2⟩

theorem Tl.lt {W : World} {base bt gt ct : Nat} {told : List Int} {bad : Bool} (h : Tl W base bt gt ct told bad) : bt < W.heap.size ∧ gt < W.heap.size := ⟨(Array.getElem?_eq_some_iff.1 h.tb).1, h.row.lt.2⟩

/-- All is as it was but for two blocks. -/
structure But2 (b g : Nat) (w w' : World) : Prop where
  os : w'.os = w.os
  tape : w'.tape = w.tape
  output : w'.output = w.output
  size : w.heap.size ≤ w'.heap.size
  block : ∀ k, k < w.heap.size → k ≠ b → k ≠ g → w'.heap[k]? = w.heap[k]?

theorem But2.refl (b g : Nat) (w : World) : But2 b g w w := ⟨rfl, rfl, rfl, Nat.le_refl _, fun _ _ _ _ => rfl⟩

theorem But2.trans {b g : Nat} {w w' w'' : World} (h : But2 b g w w') (k : But2 b g w' w'') : But2 b g w w'' :=
  ⟨k.os.trans h.os, k.tape.trans h.tape, k.output.trans h.output, Nat.le_trans h.size k.size, fun i hi h1 h2 => (k.block i (Nat.lt_of_lt_of_le hi h.size) h1 h2).trans (h.block i hi h1 h2)⟩

theorem But2.of_below {b g : Nat} {w w' : World} (h : Below w.heap.size w w') : But2 b g w w' := ⟨h.os, h.tape, h.output, h.size, fun k hk _ _ => h.block k hk⟩

theorem But2.below {b g n : Nat} {w w' : World} (h : But2 b g w w') (hb : n ≤ b) (hg : n ≤ g) (hn : n ≤ w.heap.size) : Below n w w' := ⟨h.os, h.tape, h.output, h.size, fun k hk => h.block k (by omega) (by omega) (by omega)⟩

theorem RowAt.but2 {α : Type} {f : α → List Value} {k b g : Nat} {w w' : World} {p : Option Addr} {l : List α} (h : RowAt f k w p l) (hb : But2 b g w w') (hn : ∀ b0 off, p = some ⟨b0, off, none⟩ → b0 ≠ b ∧ b0 ≠ g) : RowAt f k w' p l := by
  intro j x hj
  obtain ⟨b0, off, e, hlt, h1⟩ := h j x hj
  obtain ⟨n1, n2⟩ := hn b0 off e
  refine ⟨b0, off, e, Nat.lt_of_lt_of_le hlt hb.size, fun i u hu => ?_⟩
  rw [World.cell?_of_block (a := ⟨b0, off + j * k + i, none⟩) (hb.block b0 hlt n1 n2)]
  exact h1 i u hu

/-- What telling one more comes to. -/
def Told (told told' : List Int) (bad bad' : Bool) (r : Option (List Int)) : Prop := told'.length = told.length ∧ ((r = some told' ∧ bad' = bad) ∨ (r = none ∧ bad' = true))

def TellR (base bt gt ct : Nat) (told : List Int) (bad : Bool) (r : Option (List Int)) (w w' : World) : Prop :=
  ∃ (told' : List Int) (bad' : Bool), Tl w' base bt gt ct told' bad' ∧ But2 bt gt w w' ∧ Told told told' bad bad' r

set_option maxRecDepth 20000 in
set_option maxHeartbeats 2000000 in
theorem tell_in {base bt gt ct : Nat} {told : List Int} {bad : Bool} (h : Tl w base bt gt ct told bad) (pc : Nat) (hpc : pc < told.length) (d : Int) :
    Calls Tryz.prog 113 #[.pointer (some ⟨bt, 0, none⟩), .int .i64 pc, .int .i64 d] w fun e w' => e = .returned (.tuple #[]) ∧
      TellR base bt gt ct told bad (tellP told pc d) w w' := by
  obtain ⟨x, hx⟩ : ∃ x, told[pc]? = some x := ⟨told[pc], by simp⟩
  have hxD : told.getD pc (-1) = x := by rw [List.getD_eq_getElem?_getD, hx]; rfl
  obtain ⟨⟨t0, t1⟩, ⟨u0, u1⟩⟩ := cell_row2 h.tb
  have r0 := h.row.at hx
  have fr := h.row.frozen pc
  have hpc' : (pc : Int) < (told.length : Int) := by omega
  have hne := h.ne
  have HT : Hid _ := h
  by_cases h0 : 0 ≤ x
  · by_cases h1 : x = d
    · have TP : Hid (tellP told pc d = some (told.set pc d)) := by
        show tellP told pc d = _
        unfold tellP; rw [hxD, if_neg (by omega)]
      subst h1
      clear h hx hxD
      go_enter Tryz.func113, Tryz.ntmps113
      go_wp2
      go_end0
      refine ⟨rfl, told.set pc x, bad, ⟨?_, HT.out.row.set hpc x⟩, ⟨rfl, rfl, rfl, by simp [World.setCell], fun k hk h1 h2 => heap_setCell_other w ⟨gt, pc, none⟩ k _ h2⟩, by simp, .inl ⟨TP.out, rfl⟩⟩
      rw [heap_setCell_other w ⟨gt, pc, none⟩ bt _ hne, List.length_set]
      exact HT.out.tb
    · have TP : Hid (tellP told pc d = none) := by
        show tellP told pc d = _
        unfold tellP; rw [hxD, if_pos ⟨h0, h1⟩]
      have h1' : (x == d) = false := by simpa using h1
      clear h hx hxD
      go_enter Tryz.func113, Tryz.ntmps113
      go_wp2
      refine bodyPost_ret (results_none (by rfl) _ _ _) (by rfl) ?_
      refine ⟨rfl, told, true, ⟨?_, HT.out.row.kept (heap_setCell_other w ⟨bt, 1, none⟩ gt _ (Ne.symm hne))⟩, ⟨rfl, rfl, rfl, by simp [World.setCell], fun k hk h1 h2 => heap_setCell_other w ⟨bt, 1, none⟩ k _ h1⟩, rfl, .inr ⟨TP.out, rfl⟩⟩
      have := heap_setCell_same w bt 1 _ _ (.bool true) HT.out.tb
      simpa using this
  · have TP : Hid (tellP told pc d = some (told.set pc d)) := by
      show tellP told pc d = _
      unfold tellP; rw [hxD, if_neg (by omega)]
    clear h hx hxD
    go_enter Tryz.func113, Tryz.ntmps113
    go_wp2
    go_end0
    refine ⟨rfl, told.set pc d, bad, ⟨?_, HT.out.row.set hpc d⟩, ⟨rfl, rfl, rfl, by simp [World.setCell], fun k hk h1 h2 => heap_setCell_other w ⟨gt, pc, none⟩ k _ h2⟩, by simp, .inl ⟨TP.out, rfl⟩⟩
    rw [heap_setCell_other w ⟨gt, pc, none⟩ bt _ hne, List.length_set]
    exact HT.out.tb

def ints (l : List Nat) : List Int := l.map (fun x : Nat => (x : Int))

theorem ints_len (l : List Nat) : (ints l).length = l.length := by simp [ints]

theorem row_one {W : World} {g : Nat} {x : Int} {t : TypeId} (h : W.heap[g]? = some (.cells #[.int .i64 x] t (0, 0))) : RowAt linC 1 W (some ⟨g, 0, none⟩) [x] := by
  intro j y hj
  match j, hj with
  | 0, hj =>
    simp at hj; subst hj
    refine ⟨g, 0, rfl, (Array.getElem?_eq_some_iff.1 h).1, fun i u hu => ?_⟩
    match i, hu with
    | 0, hu => simp [linC] at hu; subst hu; rw [cell_of_row W g _ _ _ _ h]; rfl

theorem row_two {W : World} {g : Nat} {x y : Int} {t : TypeId} (h : W.heap[g]? = some (.cells #[.int .i64 x, .int .i64 y] t (0, 0))) : RowAt linC 1 W (some ⟨g, 0, none⟩) [x, y] := by
  intro j z hj
  match j, hj with
  | 0, hj =>
    simp at hj; subst hj
    refine ⟨g, 0, rfl, (Array.getElem?_eq_some_iff.1 h).1, fun i u hu => ?_⟩
    match i, hu with
    | 0, hu => simp [linC] at hu; subst hu; rw [cell_of_row W g _ _ _ _ h]; rfl
  | 1, hj =>
    simp at hj; subst hj
    refine ⟨g, 0, rfl, (Array.getElem?_eq_some_iff.1 h).1, fun i u hu => ?_⟩
    match i, hu with
    | 0, hu => simp [linC] at hu; subst hu; rw [cell_of_row W g _ _ _ _ h]; rfl

set_option maxRecDepth 20000 in
set_option maxHeartbeats 4000000 in
theorem nexts_in (f : Fm) (s : Fs) (pc : Nat) (i : In) (hv : FnAt w f s) (hx : f.code[pc]? = some i) (hl : f.code.length ≤ 1048576) (ha : (i.op = 19 ∨ i.op = 20 ∨ i.op = 21) → 0 ≤ i.a) :
    Calls Tryz.prog 114 #[fnA f s, .int .i64 pc] w fun e w' => ∃ q c, e = .returned (.slice q (nextsP i pc).length c) ∧ RowAt linC 1 w' q (ints (nextsP i pc)) ∧ (∀ b0 off, q = some ⟨b0, off, none⟩ → w.heap.size ≤ b0) ∧ Below w.heap.size w w' := by
  obtain ⟨op, a⟩ := i
  simp only at ha
  have hB1 := below1 w (.cells #[.string f.name, .int .i64 f.params, .int .i64 f.locals, .slice s.qc f.caps.length s.cc, .slice s.qk f.consts.length s.ck, .slice s.qi f.code.length s.ci, .slice s.ql f.lines.length s.cl, .slice s.qh f.hs.length s.ch] 68)
  have hb0 := heap_alloc_new w (.cells #[.string f.name, .int .i64 f.params, .int .i64 f.locals, .slice s.qc f.caps.length s.cc, .slice s.qk f.consts.length s.ck, .slice s.qi f.code.length s.ci, .slice s.ql f.lines.length s.cl, .slice s.qh f.hs.length s.ch] 68)
  obtain ⟨⟨o0, o1, o2, o3, o4, o5, o6, o7⟩, -⟩ := cell_row8 hb0
  have hpc := (List.getElem?_eq_some_iff.1 hx).1
  have hpc' : (pc : Int) < (f.code.length : Int) := by omega
  obtain ⟨b0, off, hq, c0, c1⟩ := hv.code.look2 hB1 hx
  rw [hq] at o5
  simp only at c0 c1
  have hBx := below2' w (.cells #[.string f.name, .int .i64 f.params, .int .i64 f.locals, .slice s.qc f.caps.length s.cc, .slice s.qk f.consts.length s.ck, .slice s.qi f.code.length s.ci, .slice s.ql f.lines.length s.cl, .slice s.qh f.hs.length s.ch] 68) (.cells #[.int .u8 op, .int .i64 a] 120)
  have hB3 := fun (o3 : Obj) => below3' w (.cells #[.string f.name, .int .i64 f.params, .int .i64 f.locals, .slice s.qc f.caps.length s.cc, .slice s.qk f.consts.length s.ck, .slice s.qi f.code.length s.ci, .slice s.ql f.lines.length s.cl, .slice s.qh f.hs.length s.ch] 68) (.cells #[.int .u8 op, .int .i64 a] 120) o3
  unfold fnA
  rw [hq] at hBx hB3 hb0 c0 c1 ⊢
  have hn3 := fun (o3 : Obj) => heap3_2 w (.cells #[.string f.name, .int .i64 f.params, .int .i64 f.locals, .slice s.qc f.caps.length s.cc, .slice s.qk f.consts.length s.ck, .slice (some ⟨b0, off, none⟩) f.code.length s.ci, .slice s.ql f.lines.length s.cl, .slice s.qh f.hs.length s.ch] 68) (.cells #[.int .u8 op, .int .i64 a] 120) o3
  clear hx hv hq hB1
  by_cases e28 : op = 28
  · subst e28
    simp only [nextsP, true_or, if_true, List.length_nil]
    go_enter Tryz.func114, Tryz.ntmps114
    go_wp2
    go_ret
    exact ⟨none, 0, rfl, RowAt.nil _ _ _ _, (fun _ _ e => by cases e), hBx⟩
  by_cases e29 : op = 29
  · subst e29
    simp only [nextsP, or_true, if_true, List.length_nil]
    go_enter Tryz.func114, Tryz.ntmps114
    go_wp2
    go_ret
    exact ⟨none, 0, rfl, RowAt.nil _ _ _ _, (fun _ _ e => by cases e), hBx⟩
  have n28 : ((op : Int) == 28) = false := by simp; omega
  have n29 : ((op : Int) == 29) = false := by simp; omega
  by_cases e19 : op = 19
  · subst e19
    obtain ⟨A, rfl⟩ : ∃ A : Nat, a = A := ⟨a.toNat, by have := ha (by omega); omega⟩
    have e : nextsP ⟨19, (A : Int)⟩ pc = [A] := by simp [nextsP]
    rw [e]
    clear e ha
    go_enter Tryz.func114, Tryz.ntmps114
    go_wp2
    go_ret
    exact ⟨_, _, rfl, row_one (hn3 _), (fun _ _ e => by simp at e; omega), hB3 _⟩
  by_cases e21 : op = 21
  · subst e21
    obtain ⟨A, rfl⟩ : ∃ A : Nat, a = A := ⟨a.toNat, by have := ha (by omega); omega⟩
    have e : nextsP ⟨21, (A : Int)⟩ pc = [A] := by simp [nextsP]
    rw [e]
    clear e ha
    go_enter Tryz.func114, Tryz.ntmps114
    go_wp2
    go_ret
    exact ⟨_, _, rfl, row_one (hn3 _), (fun _ _ e => by simp at e; omega), hB3 _⟩
  have n19 : ((op : Int) == 19) = false := by simp; omega
  have n21 : ((op : Int) == 21) = false := by simp; omega
  by_cases e20 : op = 20
  · subst e20
    obtain ⟨A, rfl⟩ : ∃ A : Nat, a = A := ⟨a.toNat, by have := ha (by omega); omega⟩
    have e : nextsP ⟨20, (A : Int)⟩ pc = [pc + 1, A] := by simp [nextsP]
    rw [e]
    clear e ha
    go_enter Tryz.func114, Tryz.ntmps114
    go_wp2
    go_ret
    exact ⟨_, _, rfl, row_two (hn3 _), (fun _ _ e => by simp at e; omega), hB3 _⟩
  have n20 : ((op : Int) == 20) = false := by simp; omega
  have e : nextsP ⟨op, a⟩ pc = [pc + 1] := by unfold nextsP; rw [if_neg (by simp only; omega), if_neg (by simp only; omega), if_neg (by simp only; omega)]
  rw [e]
  clear e ha
  go_enter Tryz.func114, Tryz.ntmps114
  go_wp2
  go_ret
  exact ⟨_, _, rfl, row_one (hn3 _), (fun _ _ e => by simp at e; omega), hB3 _⟩

end Go.Proofs.YtpjgdbeekmoedaaGreatDoor
