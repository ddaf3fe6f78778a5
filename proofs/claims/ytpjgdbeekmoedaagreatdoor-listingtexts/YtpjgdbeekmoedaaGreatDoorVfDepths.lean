/- The document's depths (gearboxref09). -/
import Derived.Test.YtpjgdbeekmoedaaGreatDoorVfDep
import Derived.Test.YtpjgdbeekmoedaaGreatDoorVbMath
import Derived.Test.YtpjgdbeekmoedaaGreatDoorVfRef1
namespace Go.Proofs.YtpjgdbeekmoedaaGreatDoor
set_option linter.unusedVariables false
set_option linter.unusedSimpArgs false
open Go.RowKit

variable {w : World}

/-- A row of truths of one's own. -/
abbrev TruthRow (base g c : Nat) (l : List Bool) (w : World) : Prop := w.ownsRow base 4 1 (.slice (some ⟨g, 0, none⟩) l.length c) l.length (l.map Value.bool)

theorem TruthRow.at {base g c : Nat} {l : List Bool} (h : TruthRow base g c l w) {j : Nat} {x : Bool} (hj : l[j]? = some x) : w.cell? ⟨g, j, none⟩ = some (.bool x) := by
  have hlt := (List.getElem?_eq_some_iff.1 hj).1
  rw [World.ownsRow.cellAt h _ (by omega)]
  rw [List.getElem?_map, hj]; rfl

theorem TruthRow.lt {base g c : Nat} {l : List Bool} (h : TruthRow base g c l w) : base ≤ g ∧ g < w.heap.size := World.ownsRow.lt h g rfl

theorem TruthRow.kept {base g c : Nat} {l : List Bool} (h : TruthRow base g c l w) {w' : World} (hk : w'.heap[g]? = w.heap[g]?) : TruthRow base g c l w' :=
  row_kept h (fun k e => by simp [Value.ownBlock] at e; subst e; exact hk)

theorem TruthRow.obj {base g c : Nat} {l : List Bool} (h : TruthRow base g c l w) : ∃ cur, w.heap[g]? = some (.cells cur 4 (0, 0)) ∧ l.length ≤ cur.size ∧ cur.toList.take l.length = l.map Value.bool := by
  rcases h.2 with ⟨e, _⟩ | ⟨g', cap, cur, e, _, hg, h1, _, h2, h3⟩
  · simp at e
  · simp at e
    obtain ⟨rfl, rfl⟩ := e
    simp at h2 h3
    exact ⟨cur, hg, by omega, h3⟩

theorem TruthRow.frozen {base g c : Nat} {l : List Bool} (h : TruthRow base g c l w) (j : Nat) : w.frozen? ⟨g, j, none⟩ = false := by
  obtain ⟨cur, hc, _⟩ := h.obj
  exact frozen_of_row w g j _ _ hc

theorem TruthRow.set {base g c : Nat} {l : List Bool} (h : TruthRow base g c l w) {j : Nat} (hj : j < l.length) (x : Bool) : TruthRow base g c (l.set j x) (w.setCell ⟨g, j, none⟩ (.bool x)) := by
  rcases h.2 with ⟨e, _⟩ | ⟨g', cap, cur, e, hb, hg, h1, hm, h2, h3⟩
  · simp at e
  · simp at e
    obtain ⟨rfl, rfl⟩ := e
    simp at h2 h3
    have hs := heap_setCell_same w g j _ _ (.bool x) hg
    refine ⟨by simp, .inr ⟨g, c, _, by simp, hb, hs, by simpa using h1, hm, by simpa using h2, ?_⟩⟩
    simp only [List.length_set, Nat.mul_one, List.map_set]
    rw [← h3]
    simp [List.take_set]

/-- How many places are not taken, by what is in memory. -/
def isNo : Value → Bool
  | .bool false => true
  | _ => false

def left (g n : Nat) (W : World) : Nat := match W.heap[g]? with
  | some (.cells cur _ _) => (cur.toList.take n).countP isNo
  | _ => 0

theorem left_eq {base g c : Nat} {l : List Bool} (h : TruthRow base g c l w) : left g l.length w = cnt l := by
  obtain ⟨cur, hc, _, h3⟩ := h.obj
  unfold left cnt
  rw [hc]
  simp only
  rw [h3, List.countP_map]
  congr 1
  funext b
  cases b <;> rfl

/-- What stands while depths are told. -/
structure Dp (w0 W : World) (f : Fm) (s : Fs) (bf bt gt ct gk ck : Nat) (told : List Int) (taken : List Bool) (bad : Bool) : Prop where
  bel : Below w0.heap.size w0 W
  fb : W.heap[bf]? = some (.cells #[.string f.name, .int .i64 f.params, .int .i64 f.locals, .slice s.qc f.caps.length s.cc, .slice s.qk f.consts.length s.ck, .slice s.qi f.code.length s.ci, .slice s.ql f.lines.length s.cl, .slice s.qh f.hs.length s.ch] 68 (0, 0))
  tl : Tl W w0.heap.size bt gt ct told bad
  kr : TruthRow w0.heap.size gk ck taken W
  base : w0.heap.size ≤ bf ∧ w0.heap.size ≤ bt

theorem Dp.nes {w0 W : World} {f : Fm} {s : Fs} {bf bt gt ct gk ck : Nat} {told : List Int} {taken : List Bool} {bad : Bool} (h : Dp w0 W f s bf bt gt ct gk ck told taken bad) : bf ≠ bt ∧ bf ≠ gt ∧ bf ≠ gk ∧ bt ≠ gk ∧ gt ≠ gk := by
  obtain ⟨c1, h1, _⟩ := h.tl.row.obj
  obtain ⟨c2, h2, _⟩ := h.kr.obj
  have h3 := h.fb
  have h4 := h.tl.tb
  refine ⟨fun e => ?_, fun e => ?_, fun e => ?_, fun e => ?_, fun e => ?_⟩
  · rw [e, h4] at h3; simp at h3
  · rw [e, h1] at h3; simp at h3
  · rw [e, h2] at h3; simp at h3
  · rw [e, h2] at h4; simp at h4
  · rw [e, h2] at h1; simp at h1

theorem Dp.below {w0 W W' : World} {f : Fm} {s : Fs} {bf bt gt ct gk ck : Nat} {told : List Int} {taken : List Bool} {bad : Bool} (h : Dp w0 W f s bf bt gt ct gk ck told taken bad) (hB : Below W.heap.size W W') : Dp w0 W' f s bf bt gt ct gk ck told taken bad :=
  ⟨h.bel.trans (hB.mono h.bel.size), (hB.block _ (Array.getElem?_eq_some_iff.1 h.fb).1).trans h.fb, h.tl.kept (hB.block _ h.tl.lt.1) (hB.block _ h.tl.lt.2), h.kr.kept (hB.block _ h.kr.lt.2), h.base⟩

theorem Dp.told {w0 W W' : World} {f : Fm} {s : Fs} {bf bt gt ct gk ck : Nat} {told told' : List Int} {taken : List Bool} {bad bad' : Bool} (h : Dp w0 W f s bf bt gt ct gk ck told taken bad) (ht : Tl W' w0.heap.size bt gt ct told' bad') (hb : But2 bt gt W W') : Dp w0 W' f s bf bt gt ct gk ck told' taken bad' := by
  obtain ⟨n1, n2, n3, n4, n5⟩ := h.nes
  exact ⟨h.bel.trans (hb.below h.base.2 h.tl.row.lt.1 h.bel.size), (hb.block _ (Array.getElem?_eq_some_iff.1 h.fb).1 n1 n2).trans h.fb, ht, h.kr.kept (hb.block _ h.kr.lt.2 (Ne.symm n4) (Ne.symm n5)), h.base⟩

theorem Dp.take {w0 W : World} {f : Fm} {s : Fs} {bf bt gt ct gk ck : Nat} {told : List Int} {taken : List Bool} {bad : Bool} (h : Dp w0 W f s bf bt gt ct gk ck told taken bad) {pc : Nat} (hpc : pc < taken.length) : Dp w0 (W.setCell ⟨gk, pc, none⟩ (.bool true)) f s bf bt gt ct gk ck told (taken.set pc true) bad := by
  obtain ⟨n1, n2, n3, n4, n5⟩ := h.nes
  exact ⟨below_set h.bel h.kr.lt.1 _, (heap_setCell_other W ⟨gk, pc, none⟩ bf _ n3).trans h.fb, h.tl.kept (heap_setCell_other W ⟨gk, pc, none⟩ bt _ n4) (heap_setCell_other W ⟨gk, pc, none⟩ gt _ n5), h.kr.set hpc true, h.base⟩

theorem ToldS.tell {told0 told told' : List Int} {bad bad' : Bool} {r : Option (List Int)} {pc : Nat} {d : Int} (h : ToldS told0 told bad r) (ht : Told told told' bad bad' (tellP told pc d)) : ToldS told0 told' bad' (r.bind (fun u => tellP u pc d)) := by
  obtain ⟨h1, h2⟩ := h
  obtain ⟨t1, t2⟩ := ht
  refine ⟨t1.trans h1, ?_⟩
  rcases h2 with ⟨rfl, rfl⟩ | ⟨rfl, rfl⟩
  · rcases t2 with ⟨e, rfl⟩ | ⟨e, rfl⟩
    · exact .inl ⟨e, rfl⟩
    · exact .inr ⟨e, rfl⟩
  · rcases t2 with ⟨e, rfl⟩ | ⟨e, rfl⟩
    · exact .inr ⟨rfl, rfl⟩
    · exact .inr ⟨rfl, rfl⟩

/-- The handlers of a part that guard a place. -/
def grd (pc : Nat) (h : Hn) : Bool := decide (h.fr ≤ (pc : Int) ∧ (pc : Int) < h.to)

def gtell (pc : Nat) (l : List Hn) : List (Nat × Int) := (l.filter (grd pc)).map (fun h => (h.at_.toNat, h.deep + 1))

theorem nexts_len (i : In) (pc : Nat) : (nextsP i pc).length ≤ 2 := by
  unfold nextsP
  split
  · simp
  · split
    · simp
    · split
      · simp
      · simp

theorem guards_eq (f : Fm) (pc : Nat) : guards f pc = f.hs.filter (grd pc) := rfl

end Go.Proofs.YtpjgdbeekmoedaaGreatDoor

namespace Go.Proofs.YtpjgdbeekmoedaaGreatDoor
set_option linter.unusedVariables false
set_option linter.unusedSimpArgs false
open Go.RowKit

variable {w : World}

theorem infoB : (Tryz.prog.info? 4).map (fun i => (i.zero, i.size, i.bytes)) = some (some (.bool false), 1, 1) := by kernel_rfl

theorem made_one (z : Value) (n : Nat) : (madeCells #[z] (n * 1)).toList = List.replicate n z := by
  apply List.ext_getElem?
  intro j
  by_cases hj : j < n
  · simp [madeCells, hj, Nat.mod_one]
  · simp [madeCells, hj]

/-- What depths answers. -/
def DepR (f : Fm) (base : Nat) (e : Ending) (w' : World) : Prop := match depthsP f with
  | .error pc => e = .returned (.tuple #[.slice none 0 0, .int .i64 (pc : Nat)])
  | .ok told => ∃ g c, e = .returned (.tuple #[.slice (some ⟨g, 0, none⟩) told.length c, .int .i64 (-1)]) ∧ NumRow base g c told w' ∧ told.length = f.code.length

theorem DepR.bad {f : Fm} {base pc : Nat} {w' : World} (h : depthsP f = .error pc) : DepR f base (.returned (.tuple #[.slice none 0 0, .int .i64 (pc : Nat)])) w' := by unfold DepR; rw [h]

theorem DepR.good {f : Fm} {base g c : Nat} {told : List Int} {w' : World} (h : depthsP f = .ok told) (hr : NumRow base g c told w') (hl : told.length = f.code.length) : DepR f base (.returned (.tuple #[.slice (some ⟨g, 0, none⟩) told.length c, .int .i64 (-1)])) w' := by unfold DepR; rw [h]; exact ⟨g, c, rfl, hr, hl⟩

/-- While all places are told -1. -/
structure Ld (w0 W : World) (f : Fm) (s : Fs) (bf bt gk ck n j : Nat) (v : Value) : Prop where
  bel : Below w0.heap.size w0 W
  fb : W.heap[bf]? = some (.cells #[.string f.name, .int .i64 f.params, .int .i64 f.locals, .slice s.qc f.caps.length s.cc, .slice s.qk f.consts.length s.ck, .slice s.qi f.code.length s.ci, .slice s.ql f.lines.length s.cl, .slice s.qh f.hs.length s.ch] 68 (0, 0))
  tb : W.heap[bt]? = some (.cells #[v, .bool false] 129 (0, 0))
  row : W.ownsRow w0.heap.size 3 1 v j (List.replicate j (iv (-1)))
  kr : TruthRow w0.heap.size gk ck (List.replicate n false) W

theorem Ld.dp {w0 W : World} {f : Fm} {s : Fs} {bf bt gk ck n : Nat} {v : Value} (h : Ld w0 W f s bf bt gk ck n n v) (hn : 1 ≤ n) (h1 : w0.heap.size ≤ bf) (h2 : w0.heap.size ≤ bt) : ∃ gt ct, v = .slice (some ⟨gt, 0, none⟩) n ct ∧ Dp w0 W f s bf bt gt ct gk ck (List.replicate n (-1)) (List.replicate n false) false := by
  obtain ⟨m, rfl⟩ : ∃ m, n = m + 1 := ⟨n - 1, by omega⟩
  obtain ⟨gt, ct, rfl⟩ := ownsRow_succ2 h.row
  refine ⟨gt, ct, rfl, h.bel, h.fb, ⟨by have := h.tb; simpa using this, ?_⟩, h.kr, h1, h2⟩
  have := h.row
  show W.ownsRow _ _ _ _ _ _
  simpa [List.map_replicate] using this

set_option maxRecDepth 20000 in
set_option maxHeartbeats 16000000 in
theorem depths_in (f : Fm) (s : Fs) (hv : FnAt w f s) (hok : CodeOk f) :
    Calls Tryz.prog 27 #[fnA f s] w fun e w' => DepR f w.heap.size e w' ∧ Below w.heap.size w w' := by
  unfold fnA
  obtain ⟨i0, hi, hz0, hz1, hz2⟩ := info_parts infoB
  obtain ⟨i1, hj0, hy0, hy1, hy2⟩ := info_parts infoInts
  have hn1 := hok.len1
  have hn2 := hok.len
  have hB2 := below2' w (.cells #[.string f.name, .int .i64 f.params, .int .i64 f.locals, .slice s.qc f.caps.length s.cc, .slice s.qk f.consts.length s.ck, .slice s.qi f.code.length s.ci, .slice s.ql f.lines.length s.cl, .slice s.qh f.hs.length s.ch] 68) (.cells #[.slice none 0 0, .bool false] 129)
  have hb0 := (Below.heap_alloc (w.alloc (.cells #[.string f.name, .int .i64 f.params, .int .i64 f.locals, .slice s.qc f.caps.length s.cc, .slice s.qk f.consts.length s.ck, .slice s.qi f.code.length s.ci, .slice s.ql f.lines.length s.cl, .slice s.qh f.hs.length s.ch] 68)) (.cells #[.slice none 0 0, .bool false] 129) w.heap.size (by simp)).trans (heap_alloc_new w (.cells #[.string f.name, .int .i64 f.params, .int .i64 f.locals, .slice s.qc f.caps.length s.cc, .slice s.qk f.consts.length s.ck, .slice s.qi f.code.length s.ci, .slice s.ql f.lines.length s.cl, .slice s.qh f.hs.length s.ch] 68))
  have hb1 := heap_two w (.cells #[.string f.name, .int .i64 f.params, .int .i64 f.locals, .slice s.qc f.caps.length s.cc, .slice s.qk f.consts.length s.ck, .slice s.qi f.code.length s.ci, .slice s.ql f.lines.length s.cl, .slice s.qh f.hs.length s.ch] 68) (.cells #[.slice none 0 0, .bool false] 129)
  have hsz : ((w.alloc (.cells #[.string f.name, .int .i64 f.params, .int .i64 f.locals, .slice s.qc f.caps.length s.cc, .slice s.qk f.consts.length s.ck, .slice s.qi f.code.length s.ci, .slice s.ql f.lines.length s.cl, .slice s.qh f.hs.length s.ch] 68)).alloc (.cells #[.slice none 0 0, .bool false] 129)).heap.size = w.heap.size + 2 := by simp
  have HV : Hid _ := hv
  have HOK : Hid _ := hok
  clear hv hok
  go_enter Tryz.func27, Tryz.ntmps27
  go_wp2_with (first
    | (at_make; refine wpList_make_full _ rfl _ _ 130 rfl w.heap.size 4 i0 (.bool false) 1 Tryz.underlying130 hi hz0 hz1 .i64 .i64 _ _ f.code.length rfl rfl rfl rfl (by rw [hz2]; omega) (by unfold maxLen; omega) (by simp; omega) ?_; intro w1 hown1 hgrow1))
  rw [show (Value.bool false).cells = #[Value.bool false] from rfl, made_one] at hown1
  simp only [World.size_alloc] at hown1
  have ld : Ld w w1 f s w.heap.size (w.heap.size + 1) (w.heap.size + 2) f.code.length f.code.length 0 (.slice none 0 0) := by
    have hBg : Below (w.heap.size + 2) ((w.alloc (.cells #[.string f.name, .int .i64 f.params, .int .i64 f.locals, .slice s.qc f.caps.length s.cc, .slice s.qk f.consts.length s.ck, .slice s.qi f.code.length s.ci, .slice s.ql f.lines.length s.cl, .slice s.qh f.hs.length s.ch] 68)).alloc (.cells #[.slice none 0 0, .bool false] 129)) w1 := rbelow_grown hgrow1 (fun q e => by cases e) (by omega)
    refine ⟨hB2.trans (hBg.mono (by omega)), (hBg.block _ (by omega)).trans hb0, (hBg.block _ (by omega)).trans hb1, World.ownsRow_nil _ _ _ _, ?_⟩
    show w1.ownsRow _ _ _ _ _ _
    simpa [List.map_replicate] using hown1
  have HSZ : Hid _ := hsz
  clear hown1 hgrow1 hb0 hb1 hB2 hsz
  obtain ⟨n, hn⟩ : ∃ n, f.code.length = n := ⟨_, rfl⟩
  have HN : Hid (f.code.length = n) := hn
  go_loopw [7] (fun k wr => ∃ (j : Nat) (v : Value), k = .int .i64 j ∧ j ≤ f.code.length ∧ Ld w wr f s w.heap.size (w.heap.size + 1) (w.heap.size + 2) f.code.length f.code.length j v) (fun k _ => f.code.length - (intOf k).toNat)
  case atStart => exact ⟨0, _, rfl, by omega, ld⟩
  case round =>
    clear ld hn
    obtain ⟨j, v, rfl, hjn, ld⟩ := hrel
    have hws := ld.bel.size
    obtain ⟨⟨a0, a1⟩, ⟨af0, af1⟩⟩ := cell_row2 ld.tb
    by_cases hj : j < f.code.length
    · have hj' : (j : Int) < (f.code.length : Int) := by omega
      obtain ⟨pv, cv, rfl, -, -, -⟩ := row_form ld.row
      have LD : Hid _ := ld
      have hlt := (Array.getElem?_eq_some_iff.1 ld.tb).1
      have hro := ld.row
      clear ld
      go_wp2_with (first
        | (at_builtin; refine wpList_append_own _ rfl _ _ 26 rfl w.heap.size 3 i1 (.int .i64 0) 1 8 Tryz.underlying26 hj0 hy0 hy1 hy2 rfl (by decide) _ j _ rfl (hro.alloc _) ⟨wr.heap.size, 0, none⟩ 1 1 [.int .i64 (-1)] rfl rfl (World.news_of_block (cs := #[.int .i64 (-1)]) (t := 3) (fr := (0, 0)) (heap_alloc_new wr _)) (by simp [Value.oneCell']) (by unfold maxLen; omega) (by omega) (by simp; omega) ?_; intro v4 w4 hown4 hgrow4 _; obtain ⟨g4, c4, rfl⟩ := ownsRow_succ2 hown4; have hkt : w4.heap[w.heap.size + 1]? = some (.cells #[.slice pv j cv, .bool false] 129 (0, 0)) := (hgrow4.block _ (by simp; omega) (fun e => by obtain ⟨cur, hc⟩ := row_obj hro e.symm; rw [LD.out.tb] at hc; simp at hc)).trans ((Below.heap_alloc _ _ _ hlt).trans LD.out.tb); obtain ⟨⟨b0, b1⟩, ⟨bf0, bf1⟩⟩ := cell_row2 hkt))
      go_roundw
      case rel =>
        have key : ∀ {g : Nat} {cur : Array Value} {t : TypeId}, wr.heap[g]? = some (.cells cur t (0, 0)) → t ≠ 3 → w4.heap[g]? = wr.heap[g]? := fun {g cur t} hc ht => by
          have hl := (Array.getElem?_eq_some_iff.1 hc).1
          refine (hgrow4.block _ (by simp; omega) (fun e => ?_)).trans (Below.heap_alloc _ _ _ hl)
          obtain ⟨cur', hc'⟩ := row_obj hro e.symm
          rw [hc] at hc'
          cases hc'
          exact ht rfl
        have hBg : Below w.heap.size w w4 := (LD.out.bel.alloc hws _).trans (rbelow_grown hgrow4 (fun q e => (hro.lt q e).1) (by simp; omega))
        obtain ⟨ck, hck, -⟩ := LD.out.kr.obj
        obtain ⟨cg, hcg⟩ := row_obj hown4 rfl
        have hgb : g4 ≠ w.heap.size + 1 := fun e => by rw [e, hkt] at hcg; simp at hcg
        have hgk : w.heap.size + 2 ≠ w.heap.size + 1 := by omega
        have hgf : w.heap.size ≠ w.heap.size + 1 := by omega
        refine ⟨j + 1, .slice (some ⟨g4, 0, none⟩) (j + 1) c4, by simp, by omega, below_set hBg (by omega) _, ?_, ?_, ?_, ?_⟩
        · rw [heap_setCell_other w4 ⟨w.heap.size + 1, 0, none⟩ w.heap.size _ hgf, key LD.out.fb (by decide)]
          exact LD.out.fb
        · have := heap_setCell_same w4 (w.heap.size + 1) 0 _ _ (.slice (some ⟨g4, 0, none⟩) (j + 1) c4) hkt
          simpa using this
        · rw [show List.replicate (j + 1) (iv (-1)) = List.replicate j (iv (-1)) ++ [.int .i64 (-1)] from List.replicate_succ']
          exact row_kept hown4 (fun k e => by simp [Value.ownBlock] at e; subst e; exact heap_setCell_other w4 ⟨w.heap.size + 1, 0, none⟩ g4 _ hgb)
        · refine LD.out.kr.kept ?_
          rw [heap_setCell_other w4 ⟨w.heap.size + 1, 0, none⟩ (w.heap.size + 2) _ hgk, key hck (by decide)]
      case measure => simp [intOf]; omega
    · have hj' : ¬ ((j : Int) < (f.code.length : Int)) := by omega
      obtain rfl : j = f.code.length := by omega
      obtain ⟨gt, ct, rfl, dp0⟩ := ld.dp hn1 (Nat.le_refl _) (by omega)
      have r0 : wr.cell? ⟨gt, 0, none⟩ = some (.int .i64 (-1)) := dp0.tl.row.at (by rw [List.getElem?_replicate, if_pos (by omega)])
      have rf := dp0.tl.row.frozen 0
      have hc1 : (0 : Int) < (f.code.length : Int) := by omega
      have DP0 : Hid (Dp w (wr.setCell ⟨gt, 0, none⟩ (.int .i64 0)) f s w.heap.size (w.heap.size + 1) gt ct (w.heap.size + 2) f.code.length ((List.replicate f.code.length (-1)).set 0 0) (List.replicate f.code.length false) false) := by
        have hs := dp0.tl.row.set (j := 0) (by simp; omega) 0
        refine dp0.told (told' := (List.replicate f.code.length (-1)).set 0 0) ⟨?_, hs⟩ ⟨rfl, rfl, rfl, by simp [World.setCell], fun k hk h1 h2 => heap_setCell_other wr ⟨gt, 0, none⟩ k _ h2⟩
        rw [heap_setCell_other wr ⟨gt, 0, none⟩ (w.heap.size + 1) _ dp0.tl.ne, dp0.tl.tb]
        simp
      clear dp0 ld hj hjn
      go_wp2
      rename World => wl
      clear hj' a0 a1 af0 af1 r0 rf hc1
      go_loopw [8] (fun k wr => ∃ (pc : Nat) (told : List Int) (taken : List Bool), k = .int .i64 pc ∧ pc ≤ f.code.length ∧ told.length = f.code.length ∧ taken.length = f.code.length ∧ (∀ x ∈ told, -1 ≤ x ∧ x ≤ 257) ∧ (∀ k, k < pc → ¬ Opn told taken k) ∧ depthsP f = runP f (cnt taken) told taken ∧ Dp w wr f s w.heap.size (w.heap.size + 1) gt ct (w.heap.size + 2) f.code.length told taken false) (fun k wr => left (w.heap.size + 2) f.code.length wr * (f.code.length + 1) + (f.code.length - (intOf k).toNat))
      case atStart =>
        refine ⟨0, _, _, rfl, by omega, by simp, by simp, ?_, by omega, ?_, DP0.out⟩
        · intro x hx
          rcases List.mem_or_eq_of_mem_set hx with h | h
          · have := List.eq_of_mem_replicate h; omega
          · omega
        · rw [cnt_replicate]; rfl
      case round =>
        clear DP0 hws
        obtain ⟨pc, told, taken, rfl, hpn, htl, hkl, hrg, hlo, hD, dp⟩ := hrel
        have hws := dp.bel.size
        have HT : Hid (told.length = f.code.length) := htl
        have HK : Hid (taken.length = f.code.length) := hkl
        have HRG : Hid _ := hrg
        have HLO : Hid _ := hlo
        have HD : Hid _ := hD
        have DP : Hid _ := dp
        obtain ⟨⟨a0, a1⟩, ⟨af0, af1⟩⟩ := cell_row2 dp.tl.tb
        rw [htl] at a0
        by_cases hpc : pc < f.code.length
        · have hpc' : (pc : Int) < (f.code.length : Int) := by omega
          obtain ⟨d, hd⟩ : ∃ d, told[pc]? = some d := ⟨told[pc]'(by omega), by simp⟩
          obtain ⟨b, hb⟩ : ∃ b, taken[pc]? = some b := ⟨taken[pc]'(by omega), by simp⟩
          obtain ⟨i, hi1⟩ : ∃ i, f.code[pc]? = some i := ⟨f.code[pc], by simp⟩
          have hdD : told.getD pc (-1) = d := by rw [List.getD_eq_getElem?_getD, hd]; rfl
          have hdr := hrg d (List.mem_of_getElem? hd)
          have k0 := dp.kr.at hb
          have kf := dp.kr.frozen pc
          have t0 := dp.tl.row.at hd
          have NEXT : Hid (¬ Opn told taken pc → ∃ (pc' : Nat) (told : List Int) (taken : List Bool), Value.int .i64 ((pc : Int) + 1) = .int .i64 pc' ∧ pc' ≤ f.code.length ∧ told.length = f.code.length ∧ taken.length = f.code.length ∧ (∀ x ∈ told, -1 ≤ x ∧ x ≤ 257) ∧ (∀ k, k < pc' → ¬ Opn told taken k) ∧ depthsP f = runP f (cnt taken) told taken ∧ Dp w wr f s w.heap.size (w.heap.size + 1) gt ct (w.heap.size + 2) f.code.length told taken false) := fun hno =>
            ⟨pc + 1, told, taken, by simp, by omega, HT.out, HK.out, HRG.out, fun k hk => by by_cases e : k = pc; (· rw [e]; exact hno); (· exact HLO.out k (by omega)), HD.out, DP.out⟩
          have HB : Hid (taken[pc]? = some b) := hb
          have HDD : Hid (told.getD pc (-1) = d) := hdD
          have HI : Hid (f.code[pc]? = some i) := hi1
          clear htl hkl hrg hlo hD dp hb hd hdD hi1
          cases b with
          | true =>
            go_wp2
            go_roundw
            case rel => exact NEXT.out (fun h => by have := h.1; rw [List.getD_eq_getElem?_getD, HB.out] at this; simp at this)
            case measure => simp [intOf]; omega
          | false =>
            by_cases hd0 : d < 0
            · go_wp2
              go_roundw
              case rel => exact NEXT.out (fun h => by have := h.2; rw [HDD.out] at this; omega)
              case measure => simp [intOf]; omega
            · have hd0' : ¬ (d < 0) := hd0
              have dp1 := DP.out.take (pc := pc) (by have := HK.out; omega)
              have STEP : Hid (depthsP f = match stepP f told pc with | none => .error pc | some t => runP f (cnt (taken.set pc true)) t (taken.set pc true)) := by
                show depthsP f = _
                rw [HD.out]
                exact run_step hpc HLO.out HB.out (by rw [HDD.out]; omega)
              have hio := HOK.out.op i (List.mem_of_getElem? HI.out)
              have htr := takes_range HOK.out HI.out
              have hTK := fun (W : World) => takes_in i hio (HOK.out.num pc i HI.out).1 W
              obtain ⟨bx, ox, hq, -, -⟩ := HV.out.code.look2 (Below.refl _ _) HI.out
              have HQ : Hid (s.qi = some ⟨bx, ox, none⟩) := hq
              have HIC : Hid (∀ W, Below w.heap.size w W → W.cell? ⟨bx, ox + pc * 2, none⟩ = some (.int .u8 i.op) ∧ W.cell? ⟨bx, ox + pc * 2 + 1, none⟩ = some (.int .i64 i.a)) := fun W h => by
                obtain ⟨bx', ox', hq', c0, c1⟩ := HV.out.code.look2 h HI.out
                rw [hq] at hq'
                simp at hq'
                obtain ⟨rfl, rfl⟩ := hq'
                exact ⟨c0, c1⟩
              obtain ⟨⟨e0, e1⟩, -⟩ := cell_row2 dp1.tl.tb
              rw [HT.out] at e0
              have t1 := dp1.tl.row.at (j := pc) (x := d) (by have h := HDD.out; rw [List.getD_eq_getElem?_getD] at h; cases hh : told[pc]? with | none => rw [List.getElem?_eq_none_iff] at hh; have := HT.out; omega | some y => rw [hh] at h; simp at h; rw [h])
              obtain ⟨⟨x0, x1, x2, x3, x4, x5, x6, x7⟩, -⟩ := cell_row8 dp1.fb
              rw [hq] at x5
              obtain ⟨ic0, ic1⟩ := HIC.out _ dp1.bel
              have DP1 : Hid _ := dp1
              obtain ⟨tk, htk⟩ : ∃ tk, takesP i = tk := ⟨_, rfl⟩
              obtain ⟨lv, hlv⟩ : ∃ lv, leavesP i = lv := ⟨_, rfl⟩
              have HTK : Hid (takesP i = tk ∧ leavesP i = lv) := ⟨htk, hlv⟩
              rw [htk, hlv] at htr
              obtain ⟨tr1, tr2, tr3, tr4⟩ := htr
              have hTK2 : ∀ W, Calls Tryz.prog 112 #[.agg #[.int .u8 i.op, .int .i64 i.a]] W fun e w' => e = .returned (.tuple #[.int .i64 tk, .int .i64 lv]) ∧ Below W.heap.size W w' := fun W => by
                have := hTK W
                rw [htk, hlv] at this
                exact this
              -- what stands behind Takes
              have AFT : Hid (∀ w2, Below (wr.setCell ⟨w.heap.size + 2, pc, none⟩ (.bool true)).heap.size (wr.setCell ⟨w.heap.size + 2, pc, none⟩ (.bool true)) w2 → Dp w w2 f s w.heap.size (w.heap.size + 1) gt ct (w.heap.size + 2) f.code.length told (taken.set pc true) false ∧ w2.cell? ⟨bx, ox + pc * 2, none⟩ = some (.int .u8 i.op) ∧ w2.cell? ⟨w.heap.size, 5, none⟩ = some (.slice (some ⟨bx, ox, none⟩) f.code.length s.ci)) := fun w2 h2 => by
                have d2 := DP1.out.below h2
                obtain ⟨⟨x0, x1, x2, x3, x4, x5, x6, x7⟩, -⟩ := cell_row8 d2.fb
                rw [HQ.out] at x5
                exact ⟨d2, (HIC.out _ d2.bel).1, x5⟩
              have BADR : Hid (stepP f told pc = none → ∀ w2, Below w.heap.size w w2 → DepR f w.heap.size (.returned (.tuple #[.slice none 0 0, .int .i64 (pc : Nat)])) w2 ∧ Below w.heap.size w w2) := fun h w2 h2 => ⟨DepR.bad (by rw [STEP.out, h]), h2⟩
              have STP : Hid (stepP f told pc = if tk > d ∨ d - tk + lv > 256 ∨ (i.op = 21 ∧ d ≠ 0) ∨ (guards f pc).any (fun h => decide (h.deep > d)) = true then none else tellsP (tellings f pc i d) told) := by
                show stepP f told pc = _
                unfold stepP
                rw [HI.out]
                simp only [HDD.out, HTK.out.1, HTK.out.2]
              clear hq dp1 htk hlv hTK hio hd0
              by_cases c1 : d < tk
              · go_wp2_with (first
                  | (go_at_call 112; refine (hTK2 _).mono ?_; clear hTK2; rintro e w2 ⟨rfl, hB2⟩; obtain ⟨dp2, i2, x52⟩ := AFT.out _ hB2))
                go_ret2
                exact BADR.out (by rw [STP.out, if_pos (.inl c1)]) _ dp2.bel
              · by_cases c2 : 256 < d - tk + lv
                · go_wp2_with (first
                    | (go_at_call 112; refine (hTK2 _).mono ?_; clear hTK2; rintro e w2 ⟨rfl, hB2⟩; obtain ⟨dp2, i2, x52⟩ := AFT.out _ hB2))
                  go_ret2
                  exact BADR.out (by rw [STP.out, if_pos (.inr (.inl c2))]) _ dp2.bel
                · by_cases c3 : i.op = 21
                  · have o21 : ((i.op : Int) == 21) = true := by simp; omega
                    have C3b : Hid (i.op = 21) := c3
                    clear c3
                    by_cases c4 : d = 0
                    · have dz : (d == 0) = true := by simpa using c4
                      have dz' : (d != 0) = false := by simpa using c4
                      have C3 : Hid (¬ (i.op = 21 ∧ d ≠ 0)) := fun h => h.2 c4
                      clear c4
                      have DPS : Hid (∀ (W : World) (tl : List Int) (bd : Bool), Dp w W f s w.heap.size (w.heap.size + 1) gt ct (w.heap.size + 2) f.code.length tl (taken.set pc true) bd → W.cell? ⟨w.heap.size, 0, none⟩ = some (.string f.name) ∧ W.cell? ⟨w.heap.size, 1, none⟩ = some (.int .i64 f.params) ∧ W.cell? ⟨w.heap.size, 2, none⟩ = some (.int .i64 f.locals) ∧ W.cell? ⟨w.heap.size, 3, none⟩ = some (.slice s.qc f.caps.length s.cc) ∧ W.cell? ⟨w.heap.size, 4, none⟩ = some (.slice s.qk f.consts.length s.ck) ∧ W.cell? ⟨w.heap.size, 5, none⟩ = some (.slice (some ⟨bx, ox, none⟩) f.code.length s.ci) ∧ W.cell? ⟨w.heap.size, 6, none⟩ = some (.slice s.ql f.lines.length s.cl) ∧ W.cell? ⟨w.heap.size, 7, none⟩ = some (.slice s.qh f.hs.length s.ch)) := fun W tl bd h => by
                        obtain ⟨⟨x0, x1, x2, x3, x4, x5, x6, x7⟩, -⟩ := cell_row8 h.fb
                        rw [HQ.out] at x5
                        exact ⟨x0, x1, x2, x3, x4, x5, x6, x7⟩
                      go_wp2_with (first
                        | (go_at_call 112; refine (hTK2 _).mono ?_; clear hTK2; rintro e w2 ⟨rfl, hB2⟩; obtain ⟨dp2, i2, x52⟩ := AFT.out _ hB2))
                      clear a0 a1 af0 af1 k0 t0 e0 e1 t1 ic0 ic1 x0 x1 x2 x3 x4 x5 x6 x7 kf i2 x52
                      have hhn := HOK.out.hsn
                      obtain ⟨x0, x1, x2, x3, x4, x5, x6, x7⟩ := DPS.out _ _ _ dp2
                      have hws2 := dp2.bel.size
                      go_loopw [12] (fun k wr => ∃ (pre rest : List Hn), k = .int .i64 pre.length ∧ f.hs = pre ++ rest ∧ (pre.filter (grd pc)).any (fun h => decide (h.deep > d)) = false ∧ Dp w wr f s w.heap.size (w.heap.size + 1) gt ct (w.heap.size + 2) f.code.length told (taken.set pc true) false) (fun k _ => f.hs.length - (intOf k).toNat)
                      case atStart => exact ⟨[], f.hs, rfl, rfl, rfl, dp2⟩
                      case round =>
                        clear dp2 x0 x1 x2 x3 x4 x5 x6 x7 hws2
                        obtain ⟨pre, rest, rfl, hR, hA, dp3⟩ := hrel
                        obtain ⟨x0, x1, x2, x3, x4, x5, x6, x7⟩ := DPS.out _ _ _ dp3
                        cases rest with
                        | cons x rest =>
                          have hlR : pre.length < f.hs.length := by rw [hR]; simp
                          have hlR' : (pre.length : Int) < (f.hs.length : Int) := by omega
                          have hxo := HOK.out.hs x (by rw [hR]; simp)
                          obtain ⟨bh, oh, hqh, c0, c1, c2', c3'⟩ := HV.out.hs.lookH dp3.bel (j := pre.length) (x := x) (by rw [hR]; simp)
                          rw [hqh] at x7
                          obtain ⟨fr, to, at_, deep⟩ := x
                          simp only at c0 c1 c2' c3' hxo
                          have HR : Hid _ := hR
                          have HA : Hid _ := hA
                          have e1 : (((pre ++ [(⟨fr, to, at_, deep⟩ : Hn)]).length : Nat) : Int) = pre.length + 1 := by simp
                          have DP3 : Hid (Dp w (wr.alloc (.cells #[.int .i64 fr, .int .i64 to, .int .i64 at_, .int .i64 deep] 123)) f s w.heap.size (w.heap.size + 1) gt ct (w.heap.size + 2) f.code.length told (taken.set pc true) false) := dp3.below (below1 _ _)
                          have GO3 : Hid ((grd pc ⟨fr, to, at_, deep⟩ = true → ¬ (d < deep)) → ∃ (pre' rest' : List Hn), Value.int .i64 ((pre.length : Int) + 1) = .int .i64 pre'.length ∧ f.hs = pre' ++ rest' ∧ (pre'.filter (grd pc)).any (fun h => decide (h.deep > d)) = false ∧ Dp w (wr.alloc (.cells #[.int .i64 fr, .int .i64 to, .int .i64 at_, .int .i64 deep] 123)) f s w.heap.size (w.heap.size + 1) gt ct (w.heap.size + 2) f.code.length told (taken.set pc true) false) := fun h =>
                            ⟨pre ++ [⟨fr, to, at_, deep⟩], rest, by rw [e1], by rw [HR.out]; simp, by
                              rw [List.filter_append, List.any_append, HA.out, Bool.false_or]
                              by_cases hg : grd pc ⟨fr, to, at_, deep⟩ = true
                              · rw [List.filter_cons_of_pos hg]
                                have := h hg
                                simp; omega
                              · rw [List.filter_cons_of_neg hg]; rfl, DP3.out⟩
                          clear hR hA hqh dp3
                          by_cases g1 : fr ≤ (pc : Int)
                          · by_cases g2 : (pc : Int) < to
                            · by_cases g3 : d < deep
                              · go_wp2
                                go_ret2
                                have hany : (guards f pc).any (fun h => decide (h.deep > d)) = true := by
                                  rw [guards_eq, List.any_eq_true]
                                  exact ⟨⟨fr, to, at_, deep⟩, List.mem_filter.2 ⟨by rw [HR.out]; simp, by simp [grd, g1, g2]⟩, by simpa using g3⟩
                                exact BADR.out (by rw [STP.out, if_pos (.inr (.inr (.inr hany)))]) _ DP3.out.bel
                              · go_wp2
                                go_roundw
                                case rel => exact GO3.out (fun _ => g3)
                                case measure => simp [intOf]; omega
                            · go_wp2
                              go_roundw
                              case rel => exact GO3.out (fun h => by simp [grd] at h; omega)
                              case measure => simp [intOf]; omega
                          · go_wp2
                            go_roundw
                            case rel => exact GO3.out (fun h => by simp [grd] at h; omega)
                            case measure => simp [intOf]; omega
                        | nil =>
                          have hR' : f.hs = pre := by simpa using hR
                          have hq : ¬ ((pre.length : Int) < (f.hs.length : Int)) := by rw [hR']; omega
                          have NG : Hid ((guards f pc).any (fun h => decide (h.deep > d)) = false) := by show _ = _; rw [guards_eq, hR']; exact hA
                          have STQ : Hid (stepP f told pc = tellsP (gtell pc f.hs ++ (nextsP i pc).map (fun q => (q, d - tk + lv))) told) := by
                            show _ = _
                            rw [STP.out, if_neg (by rintro (h | h | h | h); (· omega); (· omega); (· exact C3.out h); (· rw [NG.out] at h; cases h))]
                            unfold tellings gtell
                            rw [HTK.out.1, HTK.out.2, guards_eq]
                          clear hR hR' hA STP
                          go_wp2
                          rename World => w3
                          clear hq x0 x1 x2 x3 x4 x5 x6 x7
                          go_loopw [14] (fun k wr => ∃ (pre rest : List Hn) (told' : List Int) (bad' : Bool), k = .int .i64 pre.length ∧ f.hs = pre ++ rest ∧ ToldS told told' bad' (tellsP (gtell pc pre) told) ∧ Dp w wr f s w.heap.size (w.heap.size + 1) gt ct (w.heap.size + 2) f.code.length told' (taken.set pc true) bad') (fun k _ => f.hs.length - (intOf k).toNat)
                          case atStart => exact ⟨[], f.hs, told, false, rfl, rfl, ⟨rfl, .inl ⟨rfl, rfl⟩⟩, dp3⟩
                          case round =>
                            clear dp3
                            obtain ⟨pre, rest, told4, bad4, rfl, hR, hA, dp4⟩ := hrel
                            obtain ⟨x0, x1, x2, x3, x4, x5, x6, x7⟩ := DPS.out _ _ _ dp4
                            cases rest with
                            | cons x rest =>
                              have hlR : pre.length < f.hs.length := by rw [hR]; simp
                              have hlR' : (pre.length : Int) < (f.hs.length : Int) := by omega
                              have hxo := HOK.out.hs x (by rw [hR]; simp)
                              obtain ⟨bh, oh, hqh, c0, c1, c2', c3'⟩ := HV.out.hs.lookH dp4.bel (j := pre.length) (x := x) (by rw [hR]; simp)
                              rw [hqh] at x7
                              obtain ⟨fr, to, at_, deep⟩ := x
                              simp only at c0 c1 c2' c3' hxo
                              obtain ⟨A, rfl⟩ : ∃ A : Nat, at_ = A := ⟨at_.toNat, by omega⟩
                              have hAn : A < told4.length := by have := hA.1; have := HT.out; omega
                              have HR : Hid _ := hR
                              have HA : Hid _ := hA
                              have e1 : (((pre ++ [(⟨fr, to, A, deep⟩ : Hn)]).length : Nat) : Int) = pre.length + 1 := by simp
                              have DP4 : Hid (Dp w (wr.alloc (.cells #[.int .i64 fr, .int .i64 to, .int .i64 A, .int .i64 deep] 123)) f s w.heap.size (w.heap.size + 1) gt ct (w.heap.size + 2) f.code.length told4 (taken.set pc true) bad4) := dp4.below (below1 _ _)
                              have HTE := tell_in DP4.out.tl A hAn (deep + 1)
                              have GO4 : Hid (grd pc ⟨fr, to, A, deep⟩ = false → ∃ (pre' rest' : List Hn) (told' : List Int) (bad' : Bool), Value.int .i64 ((pre.length : Int) + 1) = .int .i64 pre'.length ∧ f.hs = pre' ++ rest' ∧ ToldS told told' bad' (tellsP (gtell pc pre') told) ∧ Dp w (wr.alloc (.cells #[.int .i64 fr, .int .i64 to, .int .i64 A, .int .i64 deep] 123)) f s w.heap.size (w.heap.size + 1) gt ct (w.heap.size + 2) f.code.length told' (taken.set pc true) bad') := fun h =>
                                ⟨pre ++ [⟨fr, to, A, deep⟩], rest, told4, bad4, by rw [e1], by rw [HR.out]; simp, by
                                  have : gtell pc (pre ++ [(⟨fr, to, A, deep⟩ : Hn)]) = gtell pc pre := by unfold gtell; rw [List.filter_append, List.filter_cons_of_neg (by simp [h])]; simp
                                  rw [this]; exact HA.out, DP4.out⟩
                              clear hR hA hqh dp4
                              by_cases g1 : fr ≤ (pc : Int)
                              · by_cases g2 : (pc : Int) < to
                                · go_wp2_with (first
                                    | (go_at_call 113; refine HTE.mono ?_; clear HTE; rintro e w5 ⟨rfl, told5, bad5, tl5, bu5, tr5⟩))
                                  go_roundw
                                  case rel =>
                                    refine ⟨pre ++ [⟨fr, to, A, deep⟩], rest, told5, bad5, by rw [e1], by rw [HR.out]; simp, ?_, DP4.out.told tl5 bu5⟩
                                    have : gtell pc (pre ++ [(⟨fr, to, A, deep⟩ : Hn)]) = gtell pc pre ++ [(A, deep + 1)] := by unfold gtell; rw [List.filter_append, List.filter_cons_of_pos (by simp [grd, g1, g2])]; simp
                                    rw [this, tellsP_snoc]
                                    exact ToldS.tell HA.out tr5
                                  case measure => simp [intOf]; omega
                                · go_wp2
                                  go_roundw
                                  case rel => exact GO4.out (by simp [grd]; omega)
                                  case measure => simp [intOf]; omega
                              · go_wp2
                                go_roundw
                                case rel => exact GO4.out (by simp [grd]; omega)
                                case measure => simp [intOf]; omega
                            | nil =>
                              have hR' : f.hs = pre := by simpa using hR
                              have hq : ¬ ((pre.length : Int) < (f.hs.length : Int)) := by rw [hR']; omega
                              have TS4 : Hid (ToldS told told4 bad4 (tellsP (gtell pc f.hs) told)) := by show ToldS _ _ _ _; rw [hR']; exact hA
                              have HNX := nexts_in f s pc i (HV.out.below dp4.bel) HI.out (by have := HOK.out.len; omega) (nexts_a HOK.out HI.out)
                              unfold fnA at HNX
                              rw [HQ.out] at HNX
                              have DP4 : Hid _ := dp4
                              have NXL : Hid _ := nexts_lt HOK.out HI.out
                              obtain ⟨L, hL⟩ : ∃ L, nextsP i pc = L := ⟨_, rfl⟩
                              have hLl : L.length ≤ 2 := hL ▸ nexts_len i pc
                              rw [hL] at HNX NXL STQ
                              clear hL
                              clear hR hR' hA
                              go_wp2_with (first
                                | (go_at_call 114; refine HNX.mono ?_; clear HNX; rintro e w5 ⟨qn, cn, rfl, rown, hqn, hB5⟩))
                              have dp5 := dp4.below hB5
                              have HQN : Hid (∀ b0 off, qn = some ⟨b0, off, none⟩ → b0 ≠ w.heap.size + 1 ∧ b0 ≠ gt) := fun b0 off e => by
                                have h1 := hqn b0 off e
                                have h2 := DP4.out.tl.lt
                                omega
                              clear hq x0 x1 x2 x3 x4 x5 x6 x7 hqn dp4
                              rename World => w4
                              go_loopw [17] (fun k wr => ∃ (pre rest : List Nat) (told' : List Int) (bad' : Bool), k = .int .i64 pre.length ∧ L = pre ++ rest ∧ ToldS told told' bad' (tellsP (gtell pc f.hs ++ pre.map (fun q => (q, d - tk + lv))) told) ∧ Dp w wr f s w.heap.size (w.heap.size + 1) gt ct (w.heap.size + 2) f.code.length told' (taken.set pc true) bad' ∧ RowAt linC 1 wr qn (ints L)) (fun k _ => L.length - (intOf k).toNat)
                              case atStart => exact ⟨[], L, told4, bad4, rfl, rfl, by simpa using TS4.out, dp5, rown⟩
                              case round =>
                                clear dp5 rown
                                obtain ⟨pre, rest, told6, bad6, rfl, hR, hA, dp6, rown⟩ := hrel
                                cases rest with
                                | cons x rest =>
                                  have hlR : pre.length < L.length := by rw [hR]; simp
                                  have hlR' : (pre.length : Int) < (L.length : Int) := by omega
                                  have hxl := NXL.out x (by rw [hR]; simp)
                                  obtain ⟨bn, on, hqq, c0⟩ := rown.lookL (Below.refl _ _) (j := pre.length) (x := (x : Int)) (by unfold ints; rw [List.getElem?_map, hR]; simp)
                                  have hxn : x < told6.length := by have := hA.1; have := HT.out; omega
                                  have HTE := tell_in dp6.tl x hxn (d - tk + lv)
                                  have HR : Hid _ := hR
                                  have HA : Hid _ := hA
                                  have DP6 : Hid _ := dp6
                                  have ROW : Hid _ := rown
                                  have e1 : (((pre ++ [x]).length : Nat) : Int) = pre.length + 1 := by simp
                                  subst hqq
                                  clear hR hA dp6 rown
                                  go_wp2_with (first
                                    | (go_at_call 113; refine HTE.mono ?_; clear HTE; rintro e w7 ⟨rfl, told7, bad7, tl7, bu7, tr7⟩))
                                  go_roundw
                                  case rel =>
                                    refine ⟨pre ++ [x], rest, told7, bad7, by rw [e1], by rw [HR.out]; simp, ?_, DP6.out.told tl7 bu7, RowAt.but2 ROW.out bu7 HQN.out⟩
                                    rw [List.map_append, ← List.append_assoc]
                                    exact (tellsP_snoc _ _ _).symm ▸ ToldS.tell HA.out tr7
                                  case measure => simp [intOf]; omega
                                | nil =>
                                  have hR' : L = pre := by simpa using hR
                                  have hq : ¬ ((pre.length : Int) < (L.length : Int)) := by rw [hR']; omega
                                  have TS6 : Hid (ToldS told told6 bad6 (stepP f told pc)) := by show ToldS _ _ _ _; rw [STQ.out, hR']; exact hA
                                  obtain ⟨⟨e0, e1⟩, -⟩ := cell_row2 dp6.tl.tb
                                  clear hR hR' hA
                                  cases bad6 with
                                  | true =>
                                    go_wp2
                                    go_ret2
                                    refine BADR.out ?_ _ dp6.bel
                                    rcases TS6.out.2 with ⟨_, h⟩ | ⟨h, _⟩
                                    · cases h
                                    · exact h
                                  | false =>
                                    have ST6 : Hid (stepP f told pc = some told6) := by
                                      show _ = _
                                      rcases TS6.out.2 with ⟨h, _⟩ | ⟨_, h⟩
                                      · exact h
                                      · cases h
                                    go_wp2
                                    rename World => w6
                                    clear hq e0 e1
                                    go_loopw [8, 18] (fun s8 k wr => ∃ (pre rest : List Nat) (pc' : Nat), k = .int .i64 pre.length ∧ s8 = .int .i64 pc' ∧ L = pre ++ rest ∧ pc' ≤ pc ∧ (∀ q ∈ pre, pc' ≤ q) ∧ Dp w wr f s w.heap.size (w.heap.size + 1) gt ct (w.heap.size + 2) f.code.length told6 (taken.set pc true) false ∧ RowAt linC 1 wr qn (ints L)) (fun _ k _ => L.length - (intOf k).toNat)
                                    case atStart => exact ⟨[], L, pc, rfl, rfl, rfl, Nat.le_refl _, by simp, dp6, rown⟩
                                    case round =>
                                      clear dp6 rown
                                      obtain ⟨pre, rest, pc', rfl, rfl, hR, hle, hmin, dp8, rown⟩ := hrel
                                      cases rest with
                                      | cons x rest =>
                                        have hlR : pre.length < L.length := by rw [hR]; simp
                                        have hlR' : (pre.length : Int) < (L.length : Int) := by omega
                                        obtain ⟨bn, on, hqq, c0⟩ := rown.lookL (Below.refl _ _) (j := pre.length) (x := (x : Int)) (by unfold ints; rw [List.getElem?_map, hR]; simp)
                                        have HR : Hid _ := hR
                                        have HM : Hid _ := hmin
                                        have DP8 : Hid _ := dp8
                                        have ROW : Hid _ := rown
                                        have e1 : (((pre ++ [x]).length : Nat) : Int) = pre.length + 1 := by simp
                                        subst hqq
                                        clear hR hmin dp8 rown
                                        go_wp2
                                        go_roundw
                                        case rel =>
                                          refine ⟨pre ++ [x], rest, min pc' x, by rw [e1], ?_, by rw [HR.out]; simp, by omega, ?_, DP8.out, ROW.out⟩
                                          · congr 1
                                            omega
                                          · intro q hq
                                            rcases List.mem_append.1 hq with h | h
                                            · have := HM.out q h; omega
                                            · simp at h; omega
                                        case measure => simp [intOf]; omega
                                      | nil =>
                                        have hR' : L = pre := by simpa using hR
                                        have hq : ¬ ((pre.length : Int) < (L.length : Int)) := by rw [hR']; omega
                                        have HM : Hid (∀ q ∈ L, pc' ≤ q) := by rw [hR']; exact hmin
                                        clear hR hR' hmin
                                        go_wp2
                                        go_roundw
                                        case rel =>
                                          have hst := ST6.out
                                          have hst2 := hst
                                          rw [STQ.out] at hst2
                                          refine ⟨pc', told6, taken.set pc true, rfl, by omega, by have := TS6.out.1; have := HT.out; omega, by rw [List.length_set]; exact HK.out, ?_, ?_, by rw [STEP.out, hst], dp8⟩
                                          · refine tellsP_range hst2 HRG.out (fun x hx => ?_)
                                            rcases List.mem_append.1 hx with h | h
                                            · unfold gtell at h
                                              obtain ⟨y, hy, rfl⟩ := List.mem_map.1 h
                                              have := HOK.out.hs y (List.mem_filter.1 hy).1
                                              simp only
                                              omega
                                            · obtain ⟨y, hy, rfl⟩ := List.mem_map.1 h
                                              simp only
                                              omega
                                          · intro k hk ho
                                            refine HLO.out k (by omega) ⟨?_, ?_⟩
                                            · have := ho.1
                                              rw [List.getD_eq_getElem?_getD, List.getElem?_set_ne (by omega)] at this
                                              rw [List.getD_eq_getElem?_getD]; exact this
                                            · have := ho.2
                                              rw [tellsP_other hst2 (fun x hx => ?_)] at this
                                              · exact this
                                              · rcases List.mem_append.1 hx with h | h
                                                · unfold gtell at h
                                                  obtain ⟨y, hy, rfl⟩ := List.mem_map.1 h
                                                  have h1 := HOK.out.hs y (List.mem_filter.1 hy).1
                                                  have h2 := (List.mem_filter.1 hy).2
                                                  simp [grd] at h2
                                                  simp only
                                                  omega
                                                · obtain ⟨y, hy, rfl⟩ := List.mem_map.1 h
                                                  have := HM.out y hy
                                                  simp only
                                                  omega
                                        case measure =>
                                          have l1 := left_eq dp8.kr
                                          have l2 := left_eq DP.out.kr
                                          rw [List.length_set, HK.out] at l1
                                          rw [HK.out] at l2
                                          have l3 := cnt_set HB.out
                                          simp only [intOf]
                                          rw [l1, l2, l3, Nat.add_mul]
                                          simp
                                          omega
                    · have dz : (d == 0) = false := by simpa using c4
                      have dz' : (d != 0) = true := by simpa using c4
                      go_wp2_with (first
                        | (go_at_call 112; refine (hTK2 _).mono ?_; clear hTK2; rintro e w2 ⟨rfl, hB2⟩; obtain ⟨dp2, i2, x52⟩ := AFT.out _ hB2))
                      go_ret2
                      exact BADR.out (by rw [STP.out, if_pos (.inr (.inr (.inl ⟨C3b.out, c4⟩)))]) _ dp2.bel
                  · have o21 : ((i.op : Int) == 21) = false := by simp; omega
                    have C3 : Hid (¬ (i.op = 21 ∧ d ≠ 0)) := fun h => c3 h.1
                    clear c3
                    have DPS : Hid (∀ (W : World) (tl : List Int) (bd : Bool), Dp w W f s w.heap.size (w.heap.size + 1) gt ct (w.heap.size + 2) f.code.length tl (taken.set pc true) bd → W.cell? ⟨w.heap.size, 0, none⟩ = some (.string f.name) ∧ W.cell? ⟨w.heap.size, 1, none⟩ = some (.int .i64 f.params) ∧ W.cell? ⟨w.heap.size, 2, none⟩ = some (.int .i64 f.locals) ∧ W.cell? ⟨w.heap.size, 3, none⟩ = some (.slice s.qc f.caps.length s.cc) ∧ W.cell? ⟨w.heap.size, 4, none⟩ = some (.slice s.qk f.consts.length s.ck) ∧ W.cell? ⟨w.heap.size, 5, none⟩ = some (.slice (some ⟨bx, ox, none⟩) f.code.length s.ci) ∧ W.cell? ⟨w.heap.size, 6, none⟩ = some (.slice s.ql f.lines.length s.cl) ∧ W.cell? ⟨w.heap.size, 7, none⟩ = some (.slice s.qh f.hs.length s.ch)) := fun W tl bd h => by
                      obtain ⟨⟨x0, x1, x2, x3, x4, x5, x6, x7⟩, -⟩ := cell_row8 h.fb
                      rw [HQ.out] at x5
                      exact ⟨x0, x1, x2, x3, x4, x5, x6, x7⟩
                    go_wp2_with (first
                      | (go_at_call 112; refine (hTK2 _).mono ?_; clear hTK2; rintro e w2 ⟨rfl, hB2⟩; obtain ⟨dp2, i2, x52⟩ := AFT.out _ hB2))
                    clear a0 a1 af0 af1 k0 t0 e0 e1 t1 ic0 ic1 x0 x1 x2 x3 x4 x5 x6 x7 kf i2 x52
                    have hhn := HOK.out.hsn
                    obtain ⟨x0, x1, x2, x3, x4, x5, x6, x7⟩ := DPS.out _ _ _ dp2
                    have hws2 := dp2.bel.size
                    go_loopw [12] (fun k wr => ∃ (pre rest : List Hn), k = .int .i64 pre.length ∧ f.hs = pre ++ rest ∧ (pre.filter (grd pc)).any (fun h => decide (h.deep > d)) = false ∧ Dp w wr f s w.heap.size (w.heap.size + 1) gt ct (w.heap.size + 2) f.code.length told (taken.set pc true) false) (fun k _ => f.hs.length - (intOf k).toNat)
                    case atStart => exact ⟨[], f.hs, rfl, rfl, rfl, dp2⟩
                    case round =>
                      clear dp2 x0 x1 x2 x3 x4 x5 x6 x7 hws2
                      obtain ⟨pre, rest, rfl, hR, hA, dp3⟩ := hrel
                      obtain ⟨x0, x1, x2, x3, x4, x5, x6, x7⟩ := DPS.out _ _ _ dp3
                      cases rest with
                      | cons x rest =>
                        have hlR : pre.length < f.hs.length := by rw [hR]; simp
                        have hlR' : (pre.length : Int) < (f.hs.length : Int) := by omega
                        have hxo := HOK.out.hs x (by rw [hR]; simp)
                        obtain ⟨bh, oh, hqh, c0, c1, c2', c3'⟩ := HV.out.hs.lookH dp3.bel (j := pre.length) (x := x) (by rw [hR]; simp)
                        rw [hqh] at x7
                        obtain ⟨fr, to, at_, deep⟩ := x
                        simp only at c0 c1 c2' c3' hxo
                        have HR : Hid _ := hR
                        have HA : Hid _ := hA
                        have e1 : (((pre ++ [(⟨fr, to, at_, deep⟩ : Hn)]).length : Nat) : Int) = pre.length + 1 := by simp
                        have DP3 : Hid (Dp w (wr.alloc (.cells #[.int .i64 fr, .int .i64 to, .int .i64 at_, .int .i64 deep] 123)) f s w.heap.size (w.heap.size + 1) gt ct (w.heap.size + 2) f.code.length told (taken.set pc true) false) := dp3.below (below1 _ _)
                        have GO3 : Hid ((grd pc ⟨fr, to, at_, deep⟩ = true → ¬ (d < deep)) → ∃ (pre' rest' : List Hn), Value.int .i64 ((pre.length : Int) + 1) = .int .i64 pre'.length ∧ f.hs = pre' ++ rest' ∧ (pre'.filter (grd pc)).any (fun h => decide (h.deep > d)) = false ∧ Dp w (wr.alloc (.cells #[.int .i64 fr, .int .i64 to, .int .i64 at_, .int .i64 deep] 123)) f s w.heap.size (w.heap.size + 1) gt ct (w.heap.size + 2) f.code.length told (taken.set pc true) false) := fun h =>
                          ⟨pre ++ [⟨fr, to, at_, deep⟩], rest, by rw [e1], by rw [HR.out]; simp, by
                            rw [List.filter_append, List.any_append, HA.out, Bool.false_or]
                            by_cases hg : grd pc ⟨fr, to, at_, deep⟩ = true
                            · rw [List.filter_cons_of_pos hg]
                              have := h hg
                              simp; omega
                            · rw [List.filter_cons_of_neg hg]; rfl, DP3.out⟩
                        clear hR hA hqh dp3
                        by_cases g1 : fr ≤ (pc : Int)
                        · by_cases g2 : (pc : Int) < to
                          · by_cases g3 : d < deep
                            · go_wp2
                              go_ret2
                              have hany : (guards f pc).any (fun h => decide (h.deep > d)) = true := by
                                rw [guards_eq, List.any_eq_true]
                                exact ⟨⟨fr, to, at_, deep⟩, List.mem_filter.2 ⟨by rw [HR.out]; simp, by simp [grd, g1, g2]⟩, by simpa using g3⟩
                              exact BADR.out (by rw [STP.out, if_pos (.inr (.inr (.inr hany)))]) _ DP3.out.bel
                            · go_wp2
                              go_roundw
                              case rel => exact GO3.out (fun _ => g3)
                              case measure => simp [intOf]; omega
                          · go_wp2
                            go_roundw
                            case rel => exact GO3.out (fun h => by simp [grd] at h; omega)
                            case measure => simp [intOf]; omega
                        · go_wp2
                          go_roundw
                          case rel => exact GO3.out (fun h => by simp [grd] at h; omega)
                          case measure => simp [intOf]; omega
                      | nil =>
                        have hR' : f.hs = pre := by simpa using hR
                        have hq : ¬ ((pre.length : Int) < (f.hs.length : Int)) := by rw [hR']; omega
                        have NG : Hid ((guards f pc).any (fun h => decide (h.deep > d)) = false) := by show _ = _; rw [guards_eq, hR']; exact hA
                        have STQ : Hid (stepP f told pc = tellsP (gtell pc f.hs ++ (nextsP i pc).map (fun q => (q, d - tk + lv))) told) := by
                          show _ = _
                          rw [STP.out, if_neg (by rintro (h | h | h | h); (· omega); (· omega); (· exact C3.out h); (· rw [NG.out] at h; cases h))]
                          unfold tellings gtell
                          rw [HTK.out.1, HTK.out.2, guards_eq]
                        clear hR hR' hA STP
                        go_wp2
                        rename World => w3
                        clear hq x0 x1 x2 x3 x4 x5 x6 x7
                        go_loopw [14] (fun k wr => ∃ (pre rest : List Hn) (told' : List Int) (bad' : Bool), k = .int .i64 pre.length ∧ f.hs = pre ++ rest ∧ ToldS told told' bad' (tellsP (gtell pc pre) told) ∧ Dp w wr f s w.heap.size (w.heap.size + 1) gt ct (w.heap.size + 2) f.code.length told' (taken.set pc true) bad') (fun k _ => f.hs.length - (intOf k).toNat)
                        case atStart => exact ⟨[], f.hs, told, false, rfl, rfl, ⟨rfl, .inl ⟨rfl, rfl⟩⟩, dp3⟩
                        case round =>
                          clear dp3
                          obtain ⟨pre, rest, told4, bad4, rfl, hR, hA, dp4⟩ := hrel
                          obtain ⟨x0, x1, x2, x3, x4, x5, x6, x7⟩ := DPS.out _ _ _ dp4
                          cases rest with
                          | cons x rest =>
                            have hlR : pre.length < f.hs.length := by rw [hR]; simp
                            have hlR' : (pre.length : Int) < (f.hs.length : Int) := by omega
                            have hxo := HOK.out.hs x (by rw [hR]; simp)
                            obtain ⟨bh, oh, hqh, c0, c1, c2', c3'⟩ := HV.out.hs.lookH dp4.bel (j := pre.length) (x := x) (by rw [hR]; simp)
                            rw [hqh] at x7
                            obtain ⟨fr, to, at_, deep⟩ := x
                            simp only at c0 c1 c2' c3' hxo
                            obtain ⟨A, rfl⟩ : ∃ A : Nat, at_ = A := ⟨at_.toNat, by omega⟩
                            have hAn : A < told4.length := by have := hA.1; have := HT.out; omega
                            have HR : Hid _ := hR
                            have HA : Hid _ := hA
                            have e1 : (((pre ++ [(⟨fr, to, A, deep⟩ : Hn)]).length : Nat) : Int) = pre.length + 1 := by simp
                            have DP4 : Hid (Dp w (wr.alloc (.cells #[.int .i64 fr, .int .i64 to, .int .i64 A, .int .i64 deep] 123)) f s w.heap.size (w.heap.size + 1) gt ct (w.heap.size + 2) f.code.length told4 (taken.set pc true) bad4) := dp4.below (below1 _ _)
                            have HTE := tell_in DP4.out.tl A hAn (deep + 1)
                            have GO4 : Hid (grd pc ⟨fr, to, A, deep⟩ = false → ∃ (pre' rest' : List Hn) (told' : List Int) (bad' : Bool), Value.int .i64 ((pre.length : Int) + 1) = .int .i64 pre'.length ∧ f.hs = pre' ++ rest' ∧ ToldS told told' bad' (tellsP (gtell pc pre') told) ∧ Dp w (wr.alloc (.cells #[.int .i64 fr, .int .i64 to, .int .i64 A, .int .i64 deep] 123)) f s w.heap.size (w.heap.size + 1) gt ct (w.heap.size + 2) f.code.length told' (taken.set pc true) bad') := fun h =>
                              ⟨pre ++ [⟨fr, to, A, deep⟩], rest, told4, bad4, by rw [e1], by rw [HR.out]; simp, by
                                have : gtell pc (pre ++ [(⟨fr, to, A, deep⟩ : Hn)]) = gtell pc pre := by unfold gtell; rw [List.filter_append, List.filter_cons_of_neg (by simp [h])]; simp
                                rw [this]; exact HA.out, DP4.out⟩
                            clear hR hA hqh dp4
                            by_cases g1 : fr ≤ (pc : Int)
                            · by_cases g2 : (pc : Int) < to
                              · go_wp2_with (first
                                  | (go_at_call 113; refine HTE.mono ?_; clear HTE; rintro e w5 ⟨rfl, told5, bad5, tl5, bu5, tr5⟩))
                                go_roundw
                                case rel =>
                                  refine ⟨pre ++ [⟨fr, to, A, deep⟩], rest, told5, bad5, by rw [e1], by rw [HR.out]; simp, ?_, DP4.out.told tl5 bu5⟩
                                  have : gtell pc (pre ++ [(⟨fr, to, A, deep⟩ : Hn)]) = gtell pc pre ++ [(A, deep + 1)] := by unfold gtell; rw [List.filter_append, List.filter_cons_of_pos (by simp [grd, g1, g2])]; simp
                                  rw [this, tellsP_snoc]
                                  exact ToldS.tell HA.out tr5
                                case measure => simp [intOf]; omega
                              · go_wp2
                                go_roundw
                                case rel => exact GO4.out (by simp [grd]; omega)
                                case measure => simp [intOf]; omega
                            · go_wp2
                              go_roundw
                              case rel => exact GO4.out (by simp [grd]; omega)
                              case measure => simp [intOf]; omega
                          | nil =>
                            have hR' : f.hs = pre := by simpa using hR
                            have hq : ¬ ((pre.length : Int) < (f.hs.length : Int)) := by rw [hR']; omega
                            have TS4 : Hid (ToldS told told4 bad4 (tellsP (gtell pc f.hs) told)) := by show ToldS _ _ _ _; rw [hR']; exact hA
                            have HNX := nexts_in f s pc i (HV.out.below dp4.bel) HI.out (by have := HOK.out.len; omega) (nexts_a HOK.out HI.out)
                            unfold fnA at HNX
                            rw [HQ.out] at HNX
                            have DP4 : Hid _ := dp4
                            have NXL : Hid _ := nexts_lt HOK.out HI.out
                            obtain ⟨L, hL⟩ : ∃ L, nextsP i pc = L := ⟨_, rfl⟩
                            have hLl : L.length ≤ 2 := hL ▸ nexts_len i pc
                            rw [hL] at HNX NXL STQ
                            clear hL
                            clear hR hR' hA
                            go_wp2_with (first
                              | (go_at_call 114; refine HNX.mono ?_; clear HNX; rintro e w5 ⟨qn, cn, rfl, rown, hqn, hB5⟩))
                            have dp5 := dp4.below hB5
                            have HQN : Hid (∀ b0 off, qn = some ⟨b0, off, none⟩ → b0 ≠ w.heap.size + 1 ∧ b0 ≠ gt) := fun b0 off e => by
                              have h1 := hqn b0 off e
                              have h2 := DP4.out.tl.lt
                              omega
                            clear hq x0 x1 x2 x3 x4 x5 x6 x7 hqn dp4
                            rename World => w4
                            go_loopw [17] (fun k wr => ∃ (pre rest : List Nat) (told' : List Int) (bad' : Bool), k = .int .i64 pre.length ∧ L = pre ++ rest ∧ ToldS told told' bad' (tellsP (gtell pc f.hs ++ pre.map (fun q => (q, d - tk + lv))) told) ∧ Dp w wr f s w.heap.size (w.heap.size + 1) gt ct (w.heap.size + 2) f.code.length told' (taken.set pc true) bad' ∧ RowAt linC 1 wr qn (ints L)) (fun k _ => L.length - (intOf k).toNat)
                            case atStart => exact ⟨[], L, told4, bad4, rfl, rfl, by simpa using TS4.out, dp5, rown⟩
                            case round =>
                              clear dp5 rown
                              obtain ⟨pre, rest, told6, bad6, rfl, hR, hA, dp6, rown⟩ := hrel
                              cases rest with
                              | cons x rest =>
                                have hlR : pre.length < L.length := by rw [hR]; simp
                                have hlR' : (pre.length : Int) < (L.length : Int) := by omega
                                have hxl := NXL.out x (by rw [hR]; simp)
                                obtain ⟨bn, on, hqq, c0⟩ := rown.lookL (Below.refl _ _) (j := pre.length) (x := (x : Int)) (by unfold ints; rw [List.getElem?_map, hR]; simp)
                                have hxn : x < told6.length := by have := hA.1; have := HT.out; omega
                                have HTE := tell_in dp6.tl x hxn (d - tk + lv)
                                have HR : Hid _ := hR
                                have HA : Hid _ := hA
                                have DP6 : Hid _ := dp6
                                have ROW : Hid _ := rown
                                have e1 : (((pre ++ [x]).length : Nat) : Int) = pre.length + 1 := by simp
                                subst hqq
                                clear hR hA dp6 rown
                                go_wp2_with (first
                                  | (go_at_call 113; refine HTE.mono ?_; clear HTE; rintro e w7 ⟨rfl, told7, bad7, tl7, bu7, tr7⟩))
                                go_roundw
                                case rel =>
                                  refine ⟨pre ++ [x], rest, told7, bad7, by rw [e1], by rw [HR.out]; simp, ?_, DP6.out.told tl7 bu7, RowAt.but2 ROW.out bu7 HQN.out⟩
                                  rw [List.map_append, ← List.append_assoc]
                                  exact (tellsP_snoc _ _ _).symm ▸ ToldS.tell HA.out tr7
                                case measure => simp [intOf]; omega
                              | nil =>
                                have hR' : L = pre := by simpa using hR
                                have hq : ¬ ((pre.length : Int) < (L.length : Int)) := by rw [hR']; omega
                                have TS6 : Hid (ToldS told told6 bad6 (stepP f told pc)) := by show ToldS _ _ _ _; rw [STQ.out, hR']; exact hA
                                obtain ⟨⟨e0, e1⟩, -⟩ := cell_row2 dp6.tl.tb
                                clear hR hR' hA
                                cases bad6 with
                                | true =>
                                  go_wp2
                                  go_ret2
                                  refine BADR.out ?_ _ dp6.bel
                                  rcases TS6.out.2 with ⟨_, h⟩ | ⟨h, _⟩
                                  · cases h
                                  · exact h
                                | false =>
                                  have ST6 : Hid (stepP f told pc = some told6) := by
                                    show _ = _
                                    rcases TS6.out.2 with ⟨h, _⟩ | ⟨_, h⟩
                                    · exact h
                                    · cases h
                                  go_wp2
                                  rename World => w6
                                  clear hq e0 e1
                                  go_loopw [8, 18] (fun s8 k wr => ∃ (pre rest : List Nat) (pc' : Nat), k = .int .i64 pre.length ∧ s8 = .int .i64 pc' ∧ L = pre ++ rest ∧ pc' ≤ pc ∧ (∀ q ∈ pre, pc' ≤ q) ∧ Dp w wr f s w.heap.size (w.heap.size + 1) gt ct (w.heap.size + 2) f.code.length told6 (taken.set pc true) false ∧ RowAt linC 1 wr qn (ints L)) (fun _ k _ => L.length - (intOf k).toNat)
                                  case atStart => exact ⟨[], L, pc, rfl, rfl, rfl, Nat.le_refl _, by simp, dp6, rown⟩
                                  case round =>
                                    clear dp6 rown
                                    obtain ⟨pre, rest, pc', rfl, rfl, hR, hle, hmin, dp8, rown⟩ := hrel
                                    cases rest with
                                    | cons x rest =>
                                      have hlR : pre.length < L.length := by rw [hR]; simp
                                      have hlR' : (pre.length : Int) < (L.length : Int) := by omega
                                      obtain ⟨bn, on, hqq, c0⟩ := rown.lookL (Below.refl _ _) (j := pre.length) (x := (x : Int)) (by unfold ints; rw [List.getElem?_map, hR]; simp)
                                      have HR : Hid _ := hR
                                      have HM : Hid _ := hmin
                                      have DP8 : Hid _ := dp8
                                      have ROW : Hid _ := rown
                                      have e1 : (((pre ++ [x]).length : Nat) : Int) = pre.length + 1 := by simp
                                      subst hqq
                                      clear hR hmin dp8 rown
                                      go_wp2
                                      go_roundw
                                      case rel =>
                                        refine ⟨pre ++ [x], rest, min pc' x, by rw [e1], ?_, by rw [HR.out]; simp, by omega, ?_, DP8.out, ROW.out⟩
                                        · congr 1
                                          omega
                                        · intro q hq
                                          rcases List.mem_append.1 hq with h | h
                                          · have := HM.out q h; omega
                                          · simp at h; omega
                                      case measure => simp [intOf]; omega
                                    | nil =>
                                      have hR' : L = pre := by simpa using hR
                                      have hq : ¬ ((pre.length : Int) < (L.length : Int)) := by rw [hR']; omega
                                      have HM : Hid (∀ q ∈ L, pc' ≤ q) := by rw [hR']; exact hmin
                                      clear hR hR' hmin
                                      go_wp2
                                      go_roundw
                                      case rel =>
                                        have hst := ST6.out
                                        have hst2 := hst
                                        rw [STQ.out] at hst2
                                        refine ⟨pc', told6, taken.set pc true, rfl, by omega, by have := TS6.out.1; have := HT.out; omega, by rw [List.length_set]; exact HK.out, ?_, ?_, by rw [STEP.out, hst], dp8⟩
                                        · refine tellsP_range hst2 HRG.out (fun x hx => ?_)
                                          rcases List.mem_append.1 hx with h | h
                                          · unfold gtell at h
                                            obtain ⟨y, hy, rfl⟩ := List.mem_map.1 h
                                            have := HOK.out.hs y (List.mem_filter.1 hy).1
                                            simp only
                                            omega
                                          · obtain ⟨y, hy, rfl⟩ := List.mem_map.1 h
                                            simp only
                                            omega
                                        · intro k hk ho
                                          refine HLO.out k (by omega) ⟨?_, ?_⟩
                                          · have := ho.1
                                            rw [List.getD_eq_getElem?_getD, List.getElem?_set_ne (by omega)] at this
                                            rw [List.getD_eq_getElem?_getD]; exact this
                                          · have := ho.2
                                            rw [tellsP_other hst2 (fun x hx => ?_)] at this
                                            · exact this
                                            · rcases List.mem_append.1 hx with h | h
                                              · unfold gtell at h
                                                obtain ⟨y, hy, rfl⟩ := List.mem_map.1 h
                                                have h1 := HOK.out.hs y (List.mem_filter.1 hy).1
                                                have h2 := (List.mem_filter.1 hy).2
                                                simp [grd] at h2
                                                simp only
                                                omega
                                              · obtain ⟨y, hy, rfl⟩ := List.mem_map.1 h
                                                have := HM.out y hy
                                                simp only
                                                omega
                                      case measure =>
                                        have l1 := left_eq dp8.kr
                                        have l2 := left_eq DP.out.kr
                                        rw [List.length_set, HK.out] at l1
                                        rw [HK.out] at l2
                                        have l3 := cnt_set HB.out
                                        simp only [intOf]
                                        rw [l1, l2, l3, Nat.add_mul]
                                        simp
                                        omega
        · have hpc' : ¬ ((pc : Int) < (f.code.length : Int)) := by omega
          clear htl hkl hrg hlo hD dp
          go_wp2
          go_ret2
          have hdone : depthsP f = .ok told := by rw [HD.out]; exact run_done _ (fun k hk => HLO.out k (by omega))
          have hr := DP.out.tl.row
          have hfin := DepR.good (base := w.heap.size) hdone hr HT.out
          rw [HT.out] at hfin
          exact ⟨hfin, DP.out.bel⟩

end Go.Proofs.YtpjgdbeekmoedaaGreatDoor
