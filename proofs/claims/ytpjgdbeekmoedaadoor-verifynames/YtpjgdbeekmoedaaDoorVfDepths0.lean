/- The document's depths (gearboxref09). -/
import Derived.Test.YtpjgdbeekmoedaaDoorVfDep
import Derived.Test.YtpjgdbeekmoedaaDoorVbMath
import Derived.Test.YtpjgdbeekmoedaaDoorVfRef1
namespace Go.Proofs.YtpjgdbeekmoedaaDoor
set_option linter.unusedVariables false
set_option linter.unusedSimpArgs false
open Go.RowKit

variable {w : World}

/-- A row of truths of one's own. -/
abbrev TruthRow (base g c : Nat) (l : List Bool) (w : World) : Prop := w.ownsRow base 4 1 (.slice (some ⟨g, 0, none⟩) l.length c) l.length (l.map Value.bool)

theorem TruthRow.at {base g c : Nat} {l : List Bool} (h : TruthRow base g c l w) {j : Nat} {x : Bool} (hj : l[j]? = some x) : w.cell? ⟨g, j, none⟩ = some (.bool x) := by
  have hlt := (List.getElem?_eq_some_iff.1 hj).1
  rw [World.ownsRow.cellAt h _ (by omega)]
  rw [List.getElem?_map, hj]; rfl

theorem TruthRow.lt {base g c : Nat} {l : List Bool} (h : TruthRow base g c l w) : base ≤ g ∧ g < w.heap.size := World.ownsRow.lt h g rfl

theorem TruthRow.kept {base g c : Nat} {l : List Bool} (h : TruthRow base g c l w) {w' : World} (hk : w'.heap[g]? = w.heap[g]?) : TruthRow base g c l w' :=
  row_kept h (fun k e => by simp [Value.ownBlock] at e; subst e; exact hk)

theorem TruthRow.obj {base g c : Nat} {l : List Bool} (h : TruthRow base g c l w) : ∃ cur, w.heap[g]? = some (.cells cur 4 (0, 0)) ∧ l.length ≤ cur.size ∧ cur.toList.take l.length = l.map Value.bool := by
  rcases h.2 with ⟨e, _⟩ | ⟨g', cap, cur, e, _, hg, h1, _, h2, h3⟩
  · simp at e
  · simp at e
    obtain ⟨rfl, rfl⟩ := e
    simp at h2 h3
    exact ⟨cur, hg, by omega, h3⟩

theorem TruthRow.frozen {base g c : Nat} {l : List Bool} (h : TruthRow base g c l w) (j : Nat) : w.frozen? ⟨g, j, none⟩ = false := by
  obtain ⟨cur, hc, _⟩ := h.obj
  exact frozen_of_row w g j _ _ hc

theorem TruthRow.set {base g c : Nat} {l : List Bool} (h : TruthRow base g c l w) {j : Nat} (hj : j < l.length) (x : Bool) : TruthRow base g c (l.set j x) (w.setCell ⟨g, j, none⟩ (.bool x)) := by
  rcases h.2 with ⟨e, _⟩ | ⟨g', cap, cur, e, hb, hg, h1, hm, h2, h3⟩
  · simp at e
  · simp at e
    obtain ⟨rfl, rfl⟩ := e
    simp at h2 h3
    have hs := heap_setCell_same w g j _ _ (.bool x) hg
    refine ⟨by simp, .inr ⟨g, c, _, by simp, hb, hs, by simpa using h1, hm, by simpa using h2, ?_⟩⟩
    simp only [List.length_set, Nat.mul_one, List.map_set]
    rw [← h3]
    simp [List.take_set]

/-- How many places are not taken, by what is in memory. -/
def isNo : Value → Bool
  | .bool false => true
  | _ => false

def left (g n : Nat) (W : World) : Nat := match W.heap[g]? with
  | some (.cells cur _ _) => (cur.toList.take n).countP isNo
  | _ => 0

theorem left_eq {base g c : Nat} {l : List Bool} (h : TruthRow base g c l w) : left g l.length w = cnt l := by
  obtain ⟨cur, hc, _, h3⟩ := h.obj
  unfold left cnt
  rw [hc]
  simp only
  rw [h3, List.countP_map]
  congr 1
  funext b
  cases b <;> rfl

/-- What stands while depths are told. -/
structure Dp (w0 W : World) (f : Fm) (s : Fs) (bf bt gt ct gk ck : Nat) (told : List Int) (taken : List Bool) (bad : Bool) : Prop where
  bel : Below w0.heap.size w0 W
  fb : W.heap[bf]? = some (.cells #[.string f.name, .int .i64 f.params, .int .i64 f.locals, .slice s.qc f.caps.length s.cc, .slice s.qk f.consts.length s.ck, .slice s.qi f.code.length s.ci, .slice s.ql f.lines.length s.cl, .slice s.qh f.hs.length s.ch] 40 (0, 0))
  tl : Tl W w0.heap.size bt gt ct told bad
  kr : TruthRow w0.heap.size gk ck taken W
  base : w0.heap.size ≤ bf ∧ w0.heap.size ≤ bt

theorem Dp.nes {w0 W : World} {f : Fm} {s : Fs} {bf bt gt ct gk ck : Nat} {told : List Int} {taken : List Bool} {bad : Bool} (h : Dp w0 W f s bf bt gt ct gk ck told taken bad) : bf ≠ bt ∧ bf ≠ gt ∧ bf ≠ gk ∧ bt ≠ gk ∧ gt ≠ gk := by
  obtain ⟨c1, h1, _⟩ := h.tl.row.obj
  obtain ⟨c2, h2, _⟩ := h.kr.obj
  have h3 := h.fb
  have h4 := h.tl.tb
  refine ⟨fun e => ?_, fun e => ?_, fun e => ?_, fun e => ?_, fun e => ?_⟩
  · rw [e, h4] at h3; simp at h3
  · rw [e, h1] at h3; simp at h3
  · rw [e, h2] at h3; simp at h3
  · rw [e, h2] at h4; simp at h4
  · rw [e, h2] at h1; simp at h1

theorem Dp.below {w0 W W' : World} {f : Fm} {s : Fs} {bf bt gt ct gk ck : Nat} {told : List Int} {taken : List Bool} {bad : Bool} (h : Dp w0 W f s bf bt gt ct gk ck told taken bad) (hB : Below W.heap.size W W') : Dp w0 W' f s bf bt gt ct gk ck told taken bad :=
  ⟨h.bel.trans (hB.mono h.bel.size), (hB.block _ (Array.getElem?_eq_some_iff.1 h.fb).1).trans h.fb, h.tl.kept (hB.block _ h.tl.lt.1) (hB.block _ h.tl.lt.2), h.kr.kept (hB.block _ h.kr.lt.2), h.base⟩

theorem Dp.told {w0 W W' : World} {f : Fm} {s : Fs} {bf bt gt ct gk ck : Nat} {told told' : List Int} {taken : List Bool} {bad bad' : Bool} (h : Dp w0 W f s bf bt gt ct gk ck told taken bad) (ht : Tl W' w0.heap.size bt gt ct told' bad') (hb : But2 bt gt W W') : Dp w0 W' f s bf bt gt ct gk ck told' taken bad' := by
  obtain ⟨n1, n2, n3, n4, n5⟩ := h.nes
  exact ⟨h.bel.trans (hb.below h.base.2 h.tl.row.lt.1 h.bel.size), (hb.block _ (Array.getElem?_eq_some_iff.1 h.fb).1 n1 n2).trans h.fb, ht, h.kr.kept (hb.block _ h.kr.lt.2 (Ne.symm n4) (Ne.symm n5)), h.base⟩

theorem Dp.take {w0 W : World} {f : Fm} {s : Fs} {bf bt gt ct gk ck : Nat} {told : List Int} {taken : List Bool} {bad : Bool} (h : Dp w0 W f s bf bt gt ct gk ck told taken bad) {pc : Nat} (hpc : pc < taken.length) : Dp w0 (W.setCell ⟨gk, pc, none⟩ (.bool true)) f s bf bt gt ct gk ck told (taken.set pc true) bad := by
  obtain ⟨n1, n2, n3, n4, n5⟩ := h.nes
  exact ⟨below_set h.bel h.kr.lt.1 _, (heap_setCell_other W ⟨gk, pc, none⟩ bf _ n3).trans h.fb, h.tl.kept (heap_setCell_other W ⟨gk, pc, none⟩ bt _ n4) (heap_setCell_other W ⟨gk, pc, none⟩ gt _ n5), h.kr.set hpc true, h.base⟩

theorem ToldS.tell {told0 told told' : List Int} {bad bad' : Bool} {r : Option (List Int)} {pc : Nat} {d : Int} (h : ToldS told0 told bad r) (ht : Told told told' bad bad' (tellP told pc d)) : ToldS told0 told' bad' (r.bind (fun u => tellP u pc d)) := by
  obtain ⟨h1, h2⟩ := h
  obtain ⟨t1, t2⟩ := ht
  refine ⟨t1.trans h1, ?_⟩
  rcases h2 with ⟨rfl, rfl⟩ | ⟨rfl, rfl⟩
  · rcases t2 with ⟨e, rfl⟩ | ⟨e, rfl⟩
    · exact .inl ⟨e, rfl⟩
    · exact .inr ⟨e, rfl⟩
  · rcases t2 with ⟨e, rfl⟩ | ⟨e, rfl⟩
    · exact .inr ⟨rfl, rfl⟩
    · exact .inr ⟨rfl, rfl⟩

/-- The handlers of a part that guard a place. -/
def grd (pc : Nat) (h : Hn) : Bool := decide (h.fr ≤ (pc : Int) ∧ (pc : Int) < h.to)

def gtell (pc : Nat) (l : List Hn) : List (Nat × Int) := (l.filter (grd pc)).map (fun h => (h.at_.toNat, h.deep + 1))

theorem nexts_len (i : In) (pc : Nat) : (nextsP i pc).length ≤ 2 := by
  unfold nextsP
  split
  · simp
  · split
    · simp
    · split
      · simp
      · simp

theorem guards_eq (f : Fm) (pc : Nat) : guards f pc = f.hs.filter (grd pc) := rfl

end Go.Proofs.YtpjgdbeekmoedaaDoor
