/- The document's tell, Nexts (gearboxref09). -/
import Derived.Test.YtnekcomkochmjaaGreatDoorVfRow
import Derived.Test.YtnekcomkochmjaaGreatDoorVfMath
import Derived.Test.YtnekcomkochmjaaGreatDoorVfFn
import Derived.Test.YtnekcomkochmjaaGreatDoorVbMath
import Derived.Test.YtnekcomkochmjaaGreatDoorVfTwin
import Derived.Deep.RegionHeld3
import Derived.Test.YtnekcomkochmjaaGreatDoorVfMem
import Derived.Test.YtnekcomkochmjaaGreatDoorVfGreat
namespace Go.Proofs.YtnekcomkochmjaaGreatDoor
set_option linter.unusedVariables false
set_option linter.unusedSimpArgs false
open Go.RowKit

variable {w : World}

/-- All is as it was but for two blocks. -/
structure But2 (b g : Nat) (w w' : World) : Prop where
  os : w'.os = w.os
  tape : w'.tape = w.tape
  output : w'.output = w.output
  size : w.heap.size ≤ w'.heap.size
  block : ∀ k, k < w.heap.size → k ≠ b → k ≠ g → w'.heap[k]? = w.heap[k]?

theorem But2.refl (b g : Nat) (w : World) : But2 b g w w := ⟨rfl, rfl, rfl, Nat.le_refl _, fun _ _ _ _ => rfl⟩

theorem But2.trans {b g : Nat} {w w' w'' : World} (h : But2 b g w w') (k : But2 b g w' w'') : But2 b g w w'' :=
  ⟨k.os.trans h.os, k.tape.trans h.tape, k.output.trans h.output, Nat.le_trans h.size k.size, fun i hi h1 h2 => (k.block i (Nat.lt_of_lt_of_le hi h.size) h1 h2).trans (h.block i hi h1 h2)⟩

theorem But2.of_below {b g : Nat} {w w' : World} (h : Below w.heap.size w w') : But2 b g w w' := ⟨h.os, h.tape, h.output, h.size, fun k hk _ _ => h.block k hk⟩

theorem But2.below {b g n : Nat} {w w' : World} (h : But2 b g w w') (hb : n ≤ b) (hg : n ≤ g) (hn : n ≤ w.heap.size) : Below n w w' := ⟨h.os, h.tape, h.output, h.size, fun k hk => h.block k (by omega) (by omega) (by omega)⟩

theorem RowAt.but2 {α : Type} {f : α → List Value} {k b g : Nat} {w w' : World} {p : Option Addr} {l : List α} (h : RowAt f k w p l) (hb : But2 b g w w') (hn : ∀ b0 off, p = some ⟨b0, off, none⟩ → b0 ≠ b ∧ b0 ≠ g) : RowAt f k w' p l := by
  intro j x hj
  obtain ⟨b0, off, e, hlt, h1⟩ := h j x hj
  obtain ⟨n1, n2⟩ := hn b0 off e
  refine ⟨b0, off, e, Nat.lt_of_lt_of_le hlt hb.size, fun i u hu => ?_⟩
  rw [World.cell?_of_block (a := ⟨b0, off + j * k + i, none⟩) (hb.block b0 hlt n1 n2)]
  exact h1 i u hu

/-- What telling one more comes to. -/
def Told (told told' : List Int) (bad bad' : Bool) (r : Option (List Int)) : Prop := told'.length = told.length ∧ ((r = some told' ∧ bad' = bad) ∨ (r = none ∧ bad' = true))

def ints (l : List Nat) : List Int := l.map (fun x : Nat => (x : Int))

theorem ints_len (l : List Nat) : (ints l).length = l.length := by simp [ints]

theorem row_one {W : World} {g : Nat} {x : Int} {t : TypeId} (h : W.heap[g]? = some (.cells #[.int .i64 x] t (0, 0))) : RowAt linC 1 W (some ⟨g, 0, none⟩) [x] := by
  intro j y hj
  match j, hj with
  | 0, hj =>
    simp at hj; subst hj
    refine ⟨g, 0, rfl, (Array.getElem?_eq_some_iff.1 h).1, fun i u hu => ?_⟩
    match i, hu with
    | 0, hu => simp [linC] at hu; subst hu; rw [cell_of_row W g _ _ _ _ h]; rfl

theorem row_two {W : World} {g : Nat} {x y : Int} {t : TypeId} (h : W.heap[g]? = some (.cells #[.int .i64 x, .int .i64 y] t (0, 0))) : RowAt linC 1 W (some ⟨g, 0, none⟩) [x, y] := by
  intro j z hj
  match j, hj with
  | 0, hj =>
    simp at hj; subst hj
    refine ⟨g, 0, rfl, (Array.getElem?_eq_some_iff.1 h).1, fun i u hu => ?_⟩
    match i, hu with
    | 0, hu => simp [linC] at hu; subst hu; rw [cell_of_row W g _ _ _ _ h]; rfl
  | 1, hj =>
    simp at hj; subst hj
    refine ⟨g, 0, rfl, (Array.getElem?_eq_some_iff.1 h).1, fun i u hu => ?_⟩
    match i, hu with
    | 0, hu => simp [linC] at hu; subst hu; rw [cell_of_row W g _ _ _ _ h]; rfl

end Go.Proofs.YtnekcomkochmjaaGreatDoor

namespace Go.Proofs.YtnekcomkochmjaaGreatDoor
set_option linter.unusedVariables false
set_option linter.unusedSimpArgs false
open Go.RowKit

variable {w : World}

/-- A row of truths of one's own. -/
abbrev TruthRow (base g c : Nat) (l : List Bool) (w : World) : Prop := w.ownsRow base 4 1 (.slice (some ⟨g, 0, none⟩) l.length c) l.length (l.map Value.bool)

theorem TruthRow.at {base g c : Nat} {l : List Bool} (h : TruthRow base g c l w) {j : Nat} {x : Bool} (hj : l[j]? = some x) : w.cell? ⟨g, j, none⟩ = some (.bool x) := by
  have hlt := (List.getElem?_eq_some_iff.1 hj).1
  rw [World.ownsRow.cellAt h _ (by omega)]
  rw [List.getElem?_map, hj]; rfl

theorem TruthRow.lt {base g c : Nat} {l : List Bool} (h : TruthRow base g c l w) : base ≤ g ∧ g < w.heap.size := World.ownsRow.lt h g rfl

theorem TruthRow.kept {base g c : Nat} {l : List Bool} (h : TruthRow base g c l w) {w' : World} (hk : w'.heap[g]? = w.heap[g]?) : TruthRow base g c l w' :=
  row_kept h (fun k e => by simp [Value.ownBlock] at e; subst e; exact hk)

theorem TruthRow.obj {base g c : Nat} {l : List Bool} (h : TruthRow base g c l w) : ∃ cur, w.heap[g]? = some (.cells cur 4 (0, 0)) ∧ l.length ≤ cur.size ∧ cur.toList.take l.length = l.map Value.bool := by
  rcases h.2 with ⟨e, _⟩ | ⟨g', cap, cur, e, _, hg, h1, _, h2, h3⟩
  · simp at e
  · simp at e
    obtain ⟨rfl, rfl⟩ := e
    simp at h2 h3
    exact ⟨cur, hg, by omega, h3⟩

theorem TruthRow.frozen {base g c : Nat} {l : List Bool} (h : TruthRow base g c l w) (j : Nat) : w.frozen? ⟨g, j, none⟩ = false := by
  obtain ⟨cur, hc, _⟩ := h.obj
  exact frozen_of_row w g j _ _ hc

theorem TruthRow.set {base g c : Nat} {l : List Bool} (h : TruthRow base g c l w) {j : Nat} (hj : j < l.length) (x : Bool) : TruthRow base g c (l.set j x) (w.setCell ⟨g, j, none⟩ (.bool x)) := by
  rcases h.2 with ⟨e, _⟩ | ⟨g', cap, cur, e, hb, hg, h1, hm, h2, h3⟩
  · simp at e
  · simp at e
    obtain ⟨rfl, rfl⟩ := e
    simp at h2 h3
    have hs := heap_setCell_same w g j _ _ (.bool x) hg
    refine ⟨by simp, .inr ⟨g, c, _, by simp, hb, hs, by simpa using h1, hm, by simpa using h2, ?_⟩⟩
    simp only [List.length_set, Nat.mul_one, List.map_set]
    rw [← h3]
    simp [List.take_set]

/-- How many places are not taken, by what is in memory. -/
def isNo : Value → Bool
  | .bool false => true
  | _ => false

def left (g n : Nat) (W : World) : Nat := match W.heap[g]? with
  | some (.cells cur _ _) => (cur.toList.take n).countP isNo
  | _ => 0

theorem left_eq {base g c : Nat} {l : List Bool} (h : TruthRow base g c l w) : left g l.length w = cnt l := by
  obtain ⟨cur, hc, _, h3⟩ := h.obj
  unfold left cnt
  rw [hc]
  simp only
  rw [h3, List.countP_map]
  congr 1
  funext b
  cases b <;> rfl

theorem ToldS.tell {told0 told told' : List Int} {bad bad' : Bool} {r : Option (List Int)} {pc : Nat} {d : Int} (h : ToldS told0 told bad r) (ht : Told told told' bad bad' (tellP told pc d)) : ToldS told0 told' bad' (r.bind (fun u => tellP u pc d)) := by
  obtain ⟨h1, h2⟩ := h
  obtain ⟨t1, t2⟩ := ht
  refine ⟨t1.trans h1, ?_⟩
  rcases h2 with ⟨rfl, rfl⟩ | ⟨rfl, rfl⟩
  · rcases t2 with ⟨e, rfl⟩ | ⟨e, rfl⟩
    · exact .inl ⟨e, rfl⟩
    · exact .inr ⟨e, rfl⟩
  · rcases t2 with ⟨e, rfl⟩ | ⟨e, rfl⟩
    · exact .inr ⟨rfl, rfl⟩
    · exact .inr ⟨rfl, rfl⟩

/-- The handlers of a part that guard a place. -/
def grd (pc : Nat) (h : Hn) : Bool := decide (h.fr ≤ (pc : Int) ∧ (pc : Int) < h.to)

def gtell (pc : Nat) (l : List Hn) : List (Nat × Int) := (l.filter (grd pc)).map (fun h => (h.at_.toNat, h.deep + 1))

theorem nexts_len (i : In) (pc : Nat) : (nextsP i pc).length ≤ 2 := by
  unfold nextsP
  split
  · simp
  · split
    · simp
    · split
      · simp
      · simp

theorem guards_eq (f : Fm) (pc : Nat) : guards f pc = f.hs.filter (grd pc) := rfl

end Go.Proofs.YtnekcomkochmjaaGreatDoor

namespace Go.Proofs.YtnekcomkochmjaaGreatDoor
set_option linter.unusedVariables false
set_option linter.unusedSimpArgs false
open Go.RowKit

variable {w : World}

theorem infoB : (Tryz.prog.info? 4).map (fun i => (i.zero, i.size, i.bytes)) = some (some (.bool false), 1, 1) := by kernel_rfl

theorem made_one (z : Value) (n : Nat) : (madeCells #[z] (n * 1)).toList = List.replicate n z := by
  apply List.ext_getElem?
  intro j
  by_cases hj : j < n
  · simp [madeCells, hj, Nat.mod_one]
  · simp [madeCells, hj]

/-- What depths answers. -/
def DepR (f : Fm) (base : Nat) (e : Ending) (w' : World) : Prop := match depthsP f with
  | .error pc => e = .returned (.tuple #[.slice none 0 0, .int .i64 (pc : Nat)])
  | .ok told => ∃ g c, e = .returned (.tuple #[.slice (some ⟨g, 0, none⟩) told.length c, .int .i64 (-1)]) ∧ NumRow base g c told w' ∧ told.length = f.code.length

theorem DepR.bad {f : Fm} {base pc : Nat} {w' : World} (h : depthsP f = .error pc) : DepR f base (.returned (.tuple #[.slice none 0 0, .int .i64 (pc : Nat)])) w' := by unfold DepR; rw [h]

theorem DepR.good {f : Fm} {base g c : Nat} {told : List Int} {w' : World} (h : depthsP f = .ok told) (hr : NumRow base g c told w') (hl : told.length = f.code.length) : DepR f base (.returned (.tuple #[.slice (some ⟨g, 0, none⟩) told.length c, .int .i64 (-1)])) w' := by unfold DepR; rw [h]; exact ⟨g, c, rfl, hr, hl⟩

end Go.Proofs.YtnekcomkochmjaaGreatDoor

namespace Go.Proofs.YtnekcomkochmjaaGreatDoor
set_option linter.unusedVariables false
set_option linter.unusedSimpArgs false
open Go.RowKit

variable {w : World}

end Go.Proofs.YtnekcomkochmjaaGreatDoor

namespace Go.Proofs.YtnekcomkochmjaaGreatDoor
set_option linter.unusedVariables false
set_option linter.unusedSimpArgs false
open Go.RowKit

variable {w : World}

theorem toList_ne {s : ByteArray} (h : ¬ s = ⟨#[]⟩) : ¬ s.toList = [] := by
  intro e
  rw [ByteArray.toList_eq] at e
  apply h
  cases s with
  | mk d => congr 1; simpa using e

theorem size_ne {s : ByteArray} (h : ¬ s.size = 0) : ¬ s = ⟨#[]⟩ := fun e => h (by rw [e]; rfl)

theorem size_eq {s : ByteArray} (h : s.size = 0) : s = ⟨#[]⟩ := by
  cases s with
  | mk d => cases d with | mk l => cases l with
    | nil => rfl
    | cons a b => simp [ByteArray.size] at h

end Go.Proofs.YtnekcomkochmjaaGreatDoor

namespace Go.Proofs.YtnekcomkochmjaaGreatDoor
set_option linter.unusedVariables false
set_option linter.unusedSimpArgs false
open Go.RowKit

variable {w : World}

end Go.Proofs.YtnekcomkochmjaaGreatDoor

namespace Go.Proofs.YtnekcomkochmjaaGreatDoor
set_option linter.unusedVariables false
set_option linter.unusedSimpArgs false
open Go.RowKit

variable {w : World}

theorem all_pre {α : Type} {l pre rest : List α} {x : α} {q : α → Bool} (h : l = pre ++ x :: rest) (hx : q x = false) : l.all q = false := by rw [h]; simp [hx]


end Go.Proofs.YtnekcomkochmjaaGreatDoor

namespace Go.Proofs.YtnekcomkochmjaaGreatDoor
set_option linter.unusedVariables false
set_option linter.unusedSimpArgs false
open Go.RowKit

variable {w : World}

theorem unwanted_if {P : Program} {ops : Array Oper} {S : World → Prop} {o : Oper} {a : Act} {j d : Nat} (hg : o.guard = some (j, true)) (hd : ((ops[j]?).bind (·.dst)) = some d) (ht : a.tmps[d]? = some (.bool false)) : YieldsIf P ops S o undef a :=
  Or.inr ⟨by unfold Region.wanted yielded; rw [hg]; simp only [hd, Option.bind_some, ht]; rfl, rfl⟩

theorem unwanted_un {P : Program} {ops : Array Oper} {S : World → Prop} {o : Oper} {a : Act} {j d : Nat} (hg : o.guard = some (j, false)) (hd : ((ops[j]?).bind (·.dst)) = some d) (ht : a.tmps[d]? = some (.bool true)) : YieldsIf P ops S o undef a :=
  Or.inr ⟨by unfold Region.wanted yielded; rw [hg]; simp only [hd, Option.bind_some, ht]; rfl, rfl⟩

theorem take_at {P : Program} {md : Region.Mode} {ops : Array Oper} {Q : Exit → Act → World → Prop} {S : World → Prop} {i d : Nat} {oi : Oper} {v : Value} {fuel : Nat} {listed : Array Bool} {a : Act} {w : World} (hi : ops[i]? = some oi) (hd : oi.dst = some d)
    (hs : Region.noSelect ops = true) (hf : Region.free md ops listed i = true) (hr : (Region.ready md ops listed).contains i = true)
    (hQ : ∀ c a w, Q (.panic c) (a.put (some d) v) w → Q (.panic c) a w) (hy : YieldsIf P ops S oi v a) (hS : S w)
    (h : wpAnyH P md ops Q S fuel (listed.setIfInBounds i true) { a with tmps := a.tmps.setIfInBounds d v } w) : wpAnyH P md ops Q S (fuel + 1) listed a w :=
  wpAnyH_take hi hs hf hr (by rw [hd]; exact hQ) hy hS (by rw [hd]; exact h)

/-- An instruction's op and number fit. -/
def OpOk (f : Fm) : Prop := ∀ i ∈ f.code, i.op < 256

theorem codeP_step {fs : List Fm} {fn : Nat} {f : Fm} {i : In} {r : List In} {pc : Nat} {mk : List Int} (h : insP fs fn f mk pc i = true) : codeP fs fn f (i :: r) pc mk = codeP fs fn f r (pc + 1) (mkP fn mk i) := by simp [codeP, h]

theorem codeP_stop {fs : List Fm} {fn : Nat} {f : Fm} {i : In} {r : List In} {pc : Nat} {mk : List Int} (h : insP fs fn f mk pc i = false) : codeP fs fn f (i :: r) pc mk = (some pc, mk) := by simp [codeP, h]

def pcV : Option Nat → Int
  | none => -1
  | some pc => pc

end Go.Proofs.YtnekcomkochmjaaGreatDoor

namespace Go.Proofs.YtnekcomkochmjaaGreatDoor

/-- Kinds and ops fit. -/
structure FitF (f : Fm) : Prop where
  consts : ∀ c ∈ f.consts, c.k < 256
  code : ∀ i ∈ f.code, i.op < 256
  name : f.name.size ≤ 140737488355328

end Go.Proofs.YtnekcomkochmjaaGreatDoor

namespace Go.Proofs.YtnekcomkochmjaaGreatDoor
set_option linter.unusedVariables false
set_option linter.unusedSimpArgs false
open Go.RowKit

variable {w : World}

theorem fnsP_head {fs r : List Fm} {f : Fm} {fn : Nat} {mk : List Int} (h : headP f (decide (fn = 0)) = false) : fnsP fs (f :: r) fn mk = (some (fn, 0), mk) := by
  unfold fnsP; rw [h]; rfl

theorem fnsP_code {fs r : List Fm} {f : Fm} {fn pc : Nat} {mk : List Int} (h : headP f (decide (fn = 0)) = true) (hc : (codeP fs fn f f.code 0 mk).1 = some pc) : (fnsP fs (f :: r) fn mk).1 = some (fn, pc) := by
  unfold fnsP
  rw [h]
  cases he : codeP fs fn f f.code 0 mk with
  | mk a b => rw [he] at hc; simp only at hc; subst hc; rfl

theorem fnsP_depth {fs r : List Fm} {f : Fm} {fn pc : Nat} {mk : List Int} (h : headP f (decide (fn = 0)) = true) (hc : (codeP fs fn f f.code 0 mk).1 = none) (hd : depthsP f = .error pc) : (fnsP fs (f :: r) fn mk).1 = some (fn, pc) := by
  unfold fnsP
  rw [h]
  cases he : codeP fs fn f f.code 0 mk with
  | mk a b => rw [he] at hc; simp only at hc; subst hc; simp only [if_true]; rw [hd]

theorem fnsP_next {fs r : List Fm} {f : Fm} {fn : Nat} {mk told : List Int} (h : headP f (decide (fn = 0)) = true) (hc : (codeP fs fn f f.code 0 mk).1 = none) (hd : depthsP f = .ok told) : fnsP fs (f :: r) fn mk = fnsP fs r (fn + 1) (codeP fs fn f f.code 0 mk).2 := by
  conv => lhs; unfold fnsP
  rw [h]
  cases he : codeP fs fn f f.code 0 mk with
  | mk a b => rw [he] at hc; simp only at hc; subst hc; simp only [if_true]; rw [hd]

theorem check_some {fs : List Fm} {fn pc : Nat} (h0 : ¬ (fs.length = 0 ∨ 256 < fs.length)) (h : (fnsP fs fs 0 (List.replicate fs.length (-1))).1 = some (fn, pc)) : checkV fs = (fn, pc, 8) := by
  unfold checkV
  rw [if_neg h0]
  cases he : fnsP fs fs 0 (List.replicate fs.length (-1)) with
  | mk a b => rw [he] at h; simp only at h; subst h; rfl

theorem check_none {fs : List Fm} {mk : List Int} (h0 : ¬ (fs.length = 0 ∨ 256 < fs.length)) (h : fnsP fs fs 0 (List.replicate fs.length (-1)) = (none, mk)) : checkV fs = match loneP fs 0 mk with | some fn => (fn, 0, 8) | none => (0, 0, 0) := by
  unfold checkV
  rw [if_neg h0, h]
  cases hl : loneP fs 0 mk <;> simp [hl]

theorem codeP_rng {fs : List Fm} {fn : Nat} {f : Fm} : ∀ {r : List In} {pc : Nat} {mk : List Int}, (∀ x ∈ mk, -1 ≤ x) → ∀ x ∈ (codeP fs fn f r pc mk).2, -1 ≤ x
  | [], pc, mk, h => h
  | i :: r, pc, mk, h => by
    unfold codeP
    split
    · refine codeP_rng (fun x hx => ?_)
      unfold mkP at hx
      split at hx
      · rcases List.mem_or_eq_of_mem_set hx with h1 | h1
        · exact h x h1
        · omega
      · exact h x hx
    · exact h

end Go.Proofs.YtnekcomkochmjaaGreatDoor

namespace Go.Proofs.YtnekcomkochmjaaGreatDoor
set_option linter.unusedVariables false
set_option linter.unusedSimpArgs false
open Go.RowKit

variable {w : World}

theorem fnsP_ok {fs : List Fm} : ∀ {r : List Fm} {fn : Nat} {mk : List Int}, (fnsP fs r fn mk).1 = none → (∀ f ∈ r, ∀ i ∈ f.code, i.op < 256) → ∀ f ∈ r, CodeOk f ∧ ∃ told, depthsP f = .ok told
  | [], fn, mk, _, _ => by simp
  | f :: r, fn, mk, h, ho => by
    unfold fnsP at h
    split at h
    · rename_i hh
      cases hc : codeP fs fn f f.code 0 mk with
      | mk a b =>
        rw [hc] at h
        cases a with
        | some pc => simp at h
        | none =>
          simp only at h
          cases hd : depthsP f with
          | error pc => rw [hd] at h; simp at h
          | ok told =>
            rw [hd] at h
            simp only at h
            intro g hg
            rcases List.mem_cons.1 hg with rfl | hg
            · exact ⟨ok_of hh (by rw [hc]) (ho g (by simp)), told, hd⟩
            · exact fnsP_ok h (fun g hg => ho g (by simp [hg])) g hg
    · cases h

theorem check_ok {fs : List Fm} (h : (checkV fs).2.2 = 0) (ho : ∀ f ∈ fs, ∀ i ∈ f.code, i.op < 256) : ∀ f ∈ fs, CodeOk f ∧ ∃ told, depthsP f = .ok told := by
  unfold checkV at h
  split at h
  · simp at h
  · cases hf : fnsP fs fs 0 (List.replicate fs.length (-1)) with
    | mk a b =>
      rw [hf] at h
      cases a with
      | some x => obtain ⟨fn, pc⟩ := x; simp at h
      | none => exact fnsP_ok (by rw [hf]) ho

theorem check_err (fs : List Fm) : (checkV fs).2.2 = 0 ∨ (checkV fs).2.2 = 8 := by
  unfold checkV
  split
  · exact .inr rfl
  · split
    · exact .inr rfl
    · split
      · exact .inr rfl
      · exact .inl rfl

/-- Depths: an error, or what was told. -/
def depthsV (fs : List Fm) (fn : Int) : Except Nat (List Int) :=
  if (checkV fs).2.2 ≠ 0 then .error 8
  else if fn < 0 ∨ (fs.length : Int) ≤ fn then .error 1
  else match fs[fn.toNat]? with
    | some f => (match depthsP f with | .ok told => .ok told | .error _ => .ok [])
    | none => .error 1

/-- What Depths answers. -/
def DepthsR (fs : List Fm) (fn : Int) (base : Nat) (e : Ending) (w' : World) : Prop := match depthsV fs fn with
  | .error n => e = .returned (.tuple #[.slice none 0 0, .int .i64 (n : Nat)])
  | .ok told => ∃ g c, e = .returned (.tuple #[.slice (some ⟨g, 0, none⟩) told.length c, .int .i64 0]) ∧ NumRow base g c told w'

theorem DepthsR.bad {fs : List Fm} {fn : Int} {base n : Nat} {w' : World} (h : depthsV fs fn = .error n) : DepthsR fs fn base (.returned (.tuple #[.slice none 0 0, .int .i64 (n : Nat)])) w' := by unfold DepthsR; rw [h]

theorem DepthsR.good {fs : List Fm} {fn : Int} {base g c : Nat} {told : List Int} {w' : World} (h : depthsV fs fn = .ok told) (hr : NumRow base g c told w') : DepthsR fs fn base (.returned (.tuple #[.slice (some ⟨g, 0, none⟩) told.length c, .int .i64 0])) w' := by unfold DepthsR; rw [h]; exact ⟨g, c, rfl, hr⟩

end Go.Proofs.YtnekcomkochmjaaGreatDoor
