/- show's each, for Words. -/
import Derived.Test.YtgokofomoachaaaGreatDoorShTold
import Derived.Test.YtgokofomoachaaaGreatDoorShMayBe
import Derived.Test.YtgokofomoachaaaGreatDoorShLead
import Derived.Test.YtgokofomoachaaaGreatDoorShHolds
namespace Go.Proofs.YtgokofomoachaaaGreatDoor
set_option linter.unusedVariables false
set_option linter.unusedSimpArgs false
open Go.RowKit

variable {w : World}

/-- What stands before a round. -/
def EachW (w0 : World) (bt bM bn bp c : Nat) (p : Option Addr) (S : List Om) (roots : List Vl) (m : Nat) (w : World) : Prop :=
  ∃ (t : Tr) (vt : Value) (done : List Int), IsTo w0.heap.size bt bM (.slice p S.length c) vt (100000 + 100000 * done.length) t w ∧ Way S roots t done ∧ w.heap[bn]? = some (.cells #[.int .i64 (sumAt S done : Nat)] 3 (0, 0)) ∧ w.heap[bp]? = some (.cells #[.pointer (some ⟨bt, 0, none⟩)] 132 (0, 0)) ∧ Below w0.heap.size w0 w ∧ m = S.length - done.length

theorem list_snoc (l : List Int) (h : l ≠ []) : ∃ a x, l = a ++ [x] := ⟨l.dropLast, l.getLast h, (List.dropLast_concat_getLast h).symm⟩

set_option maxRecDepth 20000 in
set_option maxHeartbeats 2000000 in
theorem eachW_in {w0 : World} {bt bM bn bp c : Nat} {p : Option Addr} {S : List Om} {roots : List Vl} (hs : IsSt w0 p S) (hf : Fair S) (hbase : w0.heap.size ≤ bn) (h : ∃ m, EachW w0 bt bM bn bp c p S roots m w) :
    Calls Tryz.prog 146 #[.pointer (some ⟨bt, 0, none⟩), .func (.func 149) #[] #[.pointer (some ⟨bn, 0, none⟩), .pointer (some ⟨bp, 0, none⟩)]] w fun e w' => e = .returned (.bool true) ∧ w'.heap[bn]? = some (.cells #[.int .i64 (wordsR S roots : Nat)] 3 (0, 0)) ∧ Below w0.heap.size w0 w' := by
  have hlen := hf.len
  have hSm : S.length ≤ maxLen := Nat.le_trans hlen (by unfold maxLen; decide)
  go_enter Tryz.func146, Tryz.ntmps146
  go_wp2
  go_loopw [5] (fun k wr => ∃ m, EachW w0 bt bM bn bp c p S roots m wr) (fun k wr => least (EachW w0 bt bM bn bp c p S roots) wr)
  case atStart => exact h
  case round =>
    have hl := least_at hrel
    generalize hm : least (EachW w0 bt bM bn bp c p S roots) wr = m at hl
    obtain ⟨t, vt, done, hto, hway, hbn, hbp, hB, rfl⟩ := hl
    cases htd : t.todo with
    | nil =>
      obtain ⟨pv, cv, rfl, -, -, -⟩ := row_form hto.todo
      rw [htd] at hto
      obtain ⟨⟨t0, t1, t2⟩, -⟩ := cell_row3 hto.blk
      have HW : Hid _ := hway
      have HM : Hid _ := hm
      clear hm hway
      simp only [List.length_nil] at t2
      go_wp2
      go_ret
      have hway := HW.out
      obtain ⟨cnt, todo⟩ := t
      simp only at htd
      subst htd
      exact ⟨rfl, by rw [← hway.sum]; exact hbn, hB⟩
    | cons y r =>
      obtain ⟨a, x, hax⟩ := list_snoc t.todo (by rw [htd]; simp)
      obtain ⟨cnt, todo⟩ := t
      simp only at hax htd
      subst hax
      clear htd
      obtain ⟨pv, cv, rfl, hcl, hcm, hpg⟩ := row_form hto.todo
      obtain ⟨g, rfl⟩ := hpg (by simp)
      have hle : (a ++ [x]).length = a.length + 1 := by simp
      simp only [hle] at hto hcl
      have hlenW := hway.len
      obtain ⟨hx1, hx2, o, hobj, hk3, hk7⟩ := (hway.rch x (by simp)).num
      obtain ⟨hoS, i, hxi, hiS, hSi⟩ := objAt_mem hobj
      have hnd : x ∉ done := fun hm => by
        have := hway.nod
        rw [List.nodup_append] at this
        exact this.2.2 x (by simp) x hm rfl
      have hsum := sumAt_cons hnd hobj
      have hdl : (x :: done).length = done.length + 1 := by simp
      have hway2 := hway.step hobj
      have hdone : done.length < S.length := by simp at hlenW; omega
      obtain ⟨hpo, hSo⟩ := hto.popped
      have hcell : wr.cell? ⟨g, a.length, none⟩ = some (.int .i64 x) := row_cell (by have := hto.todo; simp only [hle] at this; exact this) (by simp) (by omega)
      obtain ⟨⟨t0, t1, t2⟩, ff0, ff1, ff2⟩ := cell_row3 hto.blk
      have hBW : Below w0.heap.size w0 (wr.setCell ⟨bt, 2, none⟩ (.slice (some ⟨g, 0, none⟩) a.length cv)) := hB.trans (hto.below0 hSo)
      obtain ⟨b0, off, hp0, s0, s1, ⟨q, cq, s2, hvq, -⟩, s3, s4⟩ := hs.look hBW hSi
      have hbn2 : (wr.setCell ⟨bt, 2, none⟩ (.slice (some ⟨g, 0, none⟩) a.length cv)).heap[bn]? = _ := (heap_setCell_other wr ⟨bt, 2, none⟩ bn _ (by rintro rfl; rw [hto.blk] at hbn; cases hbn)).trans hbn
      have hbp2 : (wr.setCell ⟨bt, 2, none⟩ (.slice (some ⟨g, 0, none⟩) a.length cv)).heap[bp]? = _ := (heap_setCell_other wr ⟨bt, 2, none⟩ bp _ (by rintro rfl; rw [hto.blk] at hbp; cases hbp)).trans hbp
      have hov := hf.vals o hoS
      have hsl := sumAt_le hf (x :: done)
      have hno : sumAt S done + wordsO o ≤ 9223372036854775807 := by rw [Nat.add_comm, ← hsum]; exact Nat.le_trans hsl (by decide)
      have hKo : 100000 + 100000 * done.length + o.l.length ≤ 1099511627776 := by omega
      have ha40 : a.length ≤ 100000 + 100000 * 1048576 := by have := hto.len; simp only [hle] at this; omega
      have hV := visitW_in (qc := cq) (w := wr.setCell ⟨bt, 2, none⟩ (.slice (some ⟨g, 0, none⟩) a.length cv)) hs hSm hvq hBW hpo hKo (hf.str o hoS) (by omega) (hf.room o hoS) hno hbase hbn2 hbp2
      unfold objV at hV
      have hpos : (0 : Int) < ((a.length + 1 : Nat) : Int) := by omega
      have hii : (i : Int) < (S.length : Int) := by omega
      have hal : (a.length : Int) < ((a.length + 1 : Nat) : Int) := by omega
      have hac : (a.length : Int) ≤ (cv : Int) := by omega
      have hw2 : IntKind.i64.wrap (x - 1) = i := by
        clear hV hno hsum hsl hto hpo hSo hway hway2 hlenW hm hBW hbn2 hbp2
        rw [IntKind.wrap_i64]; omega
      have hw1 : wrap64 (a.length : Int) = a.length := by
        clear hV hno hsum hsl hto hpo hSo hway hway2 hlenW hm hBW hbn2 hbp2
        unfold wrap64; omega
      subst hp0
      have HH : Hid _ := And.intro hsum (And.intro hway2 (And.intro hdl (And.intro hBW hdone)))
      clear hsum hway2 hm hway hxi hSi hobj hle hdl hlenW hs hvq hBW hpo hSo hnd hbn2 hbp2 hdone hsl hx1 hx2 hcl hcm hno hKo hSm hov
      go_wp2_with (first
        | (go_at_call 149; refine hV.mono ?_; clear hV; rintro e w3 ⟨rfl, vt', hto3, hbn3, hbp3, hB3⟩))
      obtain ⟨hsum, hway2, hdl, hBW, hdone⟩ := HH.out
      have key : EachW w0 bt bM bn bp c (some ⟨b0, off, none⟩) S roots (S.length - (done.length + 1)) w3 := by
        refine ⟨_, vt', x :: done, hto3.more ?_, hway2, ?_, hbp3, hBW.trans hB3, by rw [hdl]⟩
        · rw [hdl]
          have := hf.vals o hoS
          omega
        · rw [hsum, Nat.add_comm]; exact hbn3
      refine ⟨⟨_, key⟩, ?_⟩
      have := least_le key
      omega

/-- A new tour. -/
theorem tourOf_in {p : Option Addr} {n c : Nat} (w : World) :
    Calls Tryz.prog 144 #[.slice p n c] w fun e w' => ∃ bt bM, e = .returned (.pointer (some ⟨bt, 0, none⟩)) ∧ IsTo w.heap.size bt bM (.slice p n c) (.slice none 0 0) 0 ⟨fun _ => 0, []⟩ w' ∧ Below w.heap.size w w' := by
  have hmm := @run_makeMap Tryz.prog
  go_enter Tryz.func144, Tryz.ntmps144
  go_wp2
  go_ret
  refine ⟨_, _, rfl, ⟨by omega, Nat.le_refl _, heap_two _ _ _, ?_, ?_, by simp⟩, below2' _ _ _⟩
  · have h0 : IsCnt (w.alloc (Obj.map #[] 0)) w.heap.size 0 (fun _ => 0) := ⟨.map [], World.ownsMap_made _ _ _ _, fun x => ⟨by simp [DataW.atKey], Nat.le_refl _⟩⟩
    exact h0.kept (Below.heap_alloc _ _ _ (by simp))
  · exact World.ownsRow_nil _ _ _ _

set_option maxRecDepth 20000 in
set_option maxHeartbeats 2000000 in
/-- show's Words. -/
theorem Words_in {p q : Option Addr} {S : List Om} {roots : List Vl} (c cq : Nat) (hs : IsSt w p S) (hf : Fair S) (hv : Vals w q roots) (hr : roots.length ≤ 100000) :
    Calls Tryz.prog 44 #[.slice p S.length c, .slice q roots.length cq] w fun e w' => e = .returned (.int .i64 (wordsR S roots : Nat)) ∧ Below w.heap.size w w' := by
  have hlen := hf.len
  have hSm : S.length ≤ maxLen := Nat.le_trans hlen (by unfold maxLen; decide)
  have H1 := tourOf_in (p := p) (n := S.length) (c := c) w
  have H2 := fun (w1 : World) (vt : Value) (t : Tr) (bt bM : Nat) (hB : Below w.heap.size w w1) ht => meet_in (cq := cq) (vt := vt) (t := t) (K := 0) (bt := bt) (bM := bM) (c := c) (w := w1) hs hSm hv hB ht (by omega)
  go_enter Tryz.func44, Tryz.ntmps44
  go_wp2_with (first
    | (go_at_call 144; refine H1.mono ?_; clear H1; rintro e w1 ⟨bt, bM, rfl, hto, hB1⟩; have hto1 := hto.below (below1 w1 (.cells #[.pointer (some ⟨bt, 0, none⟩)] 132)); have hB1' := hB1.alloc hB1.size (.cells #[.pointer (some ⟨bt, 0, none⟩)] 132); have hbp := heap_alloc_new w1 (.cells #[.pointer (some ⟨bt, 0, none⟩)] 132); obtain ⟨c0, -⟩ := cell_row1 hbp)
    | (go_at_call 148; refine (H2 _ _ _ _ _ hB1' hto1).mono ?_; clear H2; rintro e w2 ⟨rfl, vt', hto2, hS2⟩
       have hbl := hto.lt; have hMl := hto.cnt.lt
       have hbp2 := (hS2.block w1.heap.size (by simp) (by omega) (by omega) (by simp [Value.ownBlock])).trans hbp
       have hB2 : Below w.heap.size w w2 := hB1'.trans (hto1.below0 hS2)
       have hbp3 := (Below.heap_alloc w2 (.cells #[.int .i64 0] 3) _ (Array.getElem?_eq_some_iff.1 hbp2).1).trans hbp2
       have hbn3 := heap_alloc_new w2 (.cells #[.int .i64 0] 3)
       have hto3 := hto2.below (below1 w2 (.cells #[.int .i64 0] 3))
       have hB3 := hB2.alloc hB2.size (.cells #[.int .i64 0] 3)
       have H3 := eachW_in (bp := w1.heap.size) (bn := w2.heap.size) (c := c) (roots := roots) hs hf hB2.size ⟨_, _, vt', [], hto3.more (by simp; omega), Way.start S roots, (by rw [sumAt_nil]; exact hbn3), hbp3, hB3, rfl⟩
       obtain ⟨p0, -⟩ := cell_row1 hbp3; clear hbp2 hbp3 hbn3 hbp c0)
    | (go_at_call 146; refine H3.mono ?_; clear H3; rintro e w3 ⟨rfl, hbn4, hB4⟩; obtain ⟨n0, -⟩ := cell_row1 hbn4))
  go_ret
  exact ⟨rfl, hB4⟩

end Go.Proofs.YtgokofomoachaaaGreatDoor

namespace Go.Proofs.YtgokofomoachaaaGreatDoor

/-- May a value be, with all that it leads to? -/
def checkP (S : List Om) (v : Vl) : Prop := valP S v ∧ ∀ x o, Reach S [v] x → objAt S x = some o → objP S o

end Go.Proofs.YtgokofomoachaaaGreatDoor

namespace Go.Proofs.YtgokofomoachaaaGreatDoor
set_option linter.unusedVariables false
set_option linter.unusedSimpArgs false
open Go.RowKit

variable {w : World}

/-- How great a store that came in may be. -/
structure Came (S : List Om) : Prop where
  len : S.length ≤ 2199023255552
  vals : ∀ o ∈ S, o.l.length ≤ 8796093022208
  str : ∀ o ∈ S, o.s.size ≤ 140737488355328

theorem valsSize_in {q : Option Addr} {n c : Nat} (w : World) : Calls Tryz.prog 262 #[.slice q n c] w fun e w' => e = .returned (.int .i64 n) ∧ w' = w := by
  go_enter Tryz.func262, Tryz.ntmps262
  go_wp2
  go_ret
  exact ⟨rfl, rfl⟩

/-- A store that is not too great. -/
structure Small (S : List Om) : Prop where
  len : S.length ≤ 1048576
  vals : ∀ o ∈ S, o.l.length ≤ 100000
  str : ∀ o ∈ S, o.s.size ≤ 1048576

def sumL (S : List Om) : Nat := (S.map (fun o => o.l.length)).sum

theorem sumL_take {S : List Om} {j : Nat} {o : Om} (ho : S[j]? = some o) : sumL (S.take (j + 1)) = sumL (S.take j) + o.l.length := by
  unfold sumL
  rw [List.take_add_one, ho]; simp

end Go.Proofs.YtgokofomoachaaaGreatDoor

namespace Go.Proofs.YtgokofomoachaaaGreatDoor
set_option linter.unusedVariables false
set_option linter.unusedSimpArgs false
open Go.RowKit

variable {w : World}

/-- What stands before a round. -/
def EachC (w0 : World) (bt bM c : Nat) (p : Option Addr) (S : List Om) (roots : List Vl) (m : Nat) (w : World) : Prop :=
  ∃ (t : Tr) (vt : Value) (done : List Int), IsTo w0.heap.size bt bM (.slice p S.length c) vt (100000 + 100000 * done.length) t w ∧ Way S roots t done ∧ (∀ x ∈ t.todo ++ done, ∀ o, objAt S x = some o → formP o) ∧ (∀ x ∈ done, ∀ o, objAt S x = some o → holdP S o) ∧ Below w0.heap.size w0 w ∧ m = S.length - done.length

theorem hold_of {S : List Om} {roots : List Vl} (h : ∀ x o, Reach S roots x → objAt S x = some o → objP S o) {x : Int} {o : Om} (hx : Reach S roots x) (ho : objAt S x = some o) : holdP S o := by
  obtain ⟨_, h2, h3⟩ := h x o hx ho
  refine ⟨fun v hv => ⟨⟨(h2 v hv).1, fun o' ho' => ?_⟩, (h2 v hv).2⟩, h3⟩
  exact (h v.n o' (Reach.next hx ho hv (by rw [ho']; simp)) (leadO_at ho').1).1

theorem obj_of {S : List Om} {o : Om} (h1 : formP o) (h2 : holdP S o) : objP S o := ⟨h1, fun v hv => ⟨(h2.1 v hv).1.1, (h2.1 v hv).2⟩, h2.2⟩

theorem form_step {S : List Om} {roots : List Vl} {cnt : Int → Nat} {a : List Int} {x : Int} {done : List Int} (hway : Way S roots ⟨cnt, a ++ [x]⟩ done) (hf : ∀ y ∈ (a ++ [x]) ++ done, ∀ o, objAt S y = some o → formP o) {o : Om} (hm : ∀ v ∈ o.l, mayP S v) :
    ∀ y ∈ (meetL S ⟨cnt, a⟩ o.l).todo ++ (x :: done), ∀ o', objAt S y = some o' → formP o' := by
  have hnod := hway.nod
  have h0 : ∀ y, cnt y = 0 → y ∉ a := fun y hy hm => by
    have := (hway.cnt y).2 (by simp [hm])
    exact this hy
  have hna : a.Nodup := by
    rw [List.nodup_append] at hnod
    have := hnod.1
    rw [List.nodup_append] at this
    exact this.1
  obtain ⟨new, h1, -, h3, -, -⟩ := meetL_spec S o.l ⟨cnt, a⟩ h0 hna
  rw [h1]
  intro y hy o' ho'
  rcases List.mem_append.1 hy with hy | hy
  · rcases List.mem_append.1 hy with hy | hy
    · exact hf y (by simp at hy ⊢; simp [hy]) o' ho'
    · obtain ⟨-, v, hv, hl, rfl⟩ := h3 y hy
      cases hle : leadO S v with
      | none => exact (hl hle).elim
      | some o2 =>
        have := (leadO_at hle).1
        rw [ho'] at this
        cases this
        exact (hm v hv).2 o' hle
  · rcases List.mem_cons.1 hy with rfl | hy
    · exact hf y (by simp) o' ho'
    · exact hf y (by simp [hy]) o' ho'

set_option maxRecDepth 20000 in
set_option maxHeartbeats 2000000 in
theorem eachC_in {w0 : World} {bt bM c : Nat} {p : Option Addr} {S : List Om} {v : Vl} (hs : IsSt w0 p S) (hsm : Small S) (hfit : ∀ o ∈ S, ∀ v ∈ o.l, v.fits) (hval : valP S v) (b : Bool) (hb : b = true ↔ checkP S v) (h : ∃ m, EachC w0 bt bM c p S [v] m w) :
    Calls Tryz.prog 146 #[.pointer (some ⟨bt, 0, none⟩), .func (.func 147) #[.agg #[.pointer (some ⟨bt, 0, none⟩)]] #[]] w fun e w' => e = .returned (.bool b) ∧ Below w0.heap.size w0 w' := by
  have hlen := hsm.len
  have hSm : S.length ≤ maxLen := Nat.le_trans hlen (by unfold maxLen; decide)
  go_enter Tryz.func146, Tryz.ntmps146
  go_wp2
  go_loopw [5] (fun k wr => ∃ m, EachC w0 bt bM c p S [v] m wr) (fun k wr => least (EachC w0 bt bM c p S [v]) wr)
  case atStart => exact h
  case round =>
    have hl := least_at hrel
    generalize hm : least (EachC w0 bt bM c p S [v]) wr = m at hl
    obtain ⟨t, vt, done, hto, hway, hform, hhold, hB, rfl⟩ := hl
    cases htd : t.todo with
    | nil =>
      obtain ⟨pv, cv, rfl, -, -, -⟩ := row_form hto.todo
      rw [htd] at hto
      obtain ⟨⟨t0, t1, t2⟩, -⟩ := cell_row3 hto.blk
      obtain ⟨cnt, todo⟩ := t
      simp only at htd
      subst htd
      have hbt' := b_true hb ⟨hval, fun x o hx ho => obj_of (hform x (by simp; exact (hway.end x).2 hx) o ho) (hhold x ((hway.end x).2 hx) o ho)⟩
      subst hbt'
      clear hm hway hb hform hhold
      simp only [List.length_nil] at t2
      go_wp2
      go_ret
      exact ⟨rfl, hB⟩
    | cons y r =>
      obtain ⟨a, x, hax⟩ := list_snoc t.todo (by rw [htd]; simp)
      obtain ⟨cnt, todo⟩ := t
      simp only at hax htd
      subst hax
      clear htd
      obtain ⟨pv, cv, rfl, hcl, hcm, hpg⟩ := row_form hto.todo
      obtain ⟨g, rfl⟩ := hpg (by simp)
      have hle : (a ++ [x]).length = a.length + 1 := by simp
      simp only [hle] at hto hcl
      have hlenW := hway.len
      have hrx := hway.rch x (by simp)
      obtain ⟨hx1, hx2, o, hobj, hk3, hk7⟩ := hrx.num
      obtain ⟨hoS, i, hxi, hiS, hSi⟩ := objAt_mem hobj
      have hfo := hform x (by simp) o hobj
      have hdl : (x :: done).length = done.length + 1 := by simp
      have hway2 := hway.step hobj
      have hdone : done.length < S.length := by simp at hlenW; omega
      obtain ⟨hpo, hSo⟩ := hto.popped
      have hcell : wr.cell? ⟨g, a.length, none⟩ = some (.int .i64 x) := row_cell (by have := hto.todo; simp only [hle] at this; exact this) (by simp) (by omega)
      obtain ⟨⟨t0, t1, t2⟩, ff0, ff1, ff2⟩ := cell_row3 hto.blk
      have hBW : Below w0.heap.size w0 (wr.setCell ⟨bt, 2, none⟩ (.slice (some ⟨g, 0, none⟩) a.length cv)) := hB.trans (hto.below0 hSo)
      obtain ⟨b0, off, hp0, s0, s1, ⟨q, cq, s2, hvq, -⟩, s3, s4⟩ := hs.look hBW hSi
      have hov := hsm.vals o hoS
      have hKo : 100000 + 100000 * done.length + o.l.length ≤ 1099511627776 := by omega
      have ha40 : a.length ≤ 100000 + 100000 * 1048576 := by have := hto.len; simp only [hle] at this; omega
      obtain ⟨bh, hbh⟩ := b_of (holdP S o)
      have hV := holds_in (w := wr.setCell ⟨bt, 2, none⟩ (.slice (some ⟨g, 0, none⟩) a.length cv)) hs hSm hsm.str hBW hpo o cq hvq hKo (by omega) (hfit o hoS) hfo bh hbh
      unfold objV at hV
      have hpos : (0 : Int) < ((a.length + 1 : Nat) : Int) := by omega
      have hii : (i : Int) < (S.length : Int) := by omega
      have hal : (a.length : Int) < ((a.length + 1 : Nat) : Int) := by omega
      have hac : (a.length : Int) ≤ (cv : Int) := by omega
      have hw2 : IntKind.i64.wrap (x - 1) = i := by
        clear hV hto hpo hSo hway hway2 hlenW hm hBW hb hbh
        rw [IntKind.wrap_i64]; omega
      have hw1 : wrap64 (a.length : Int) = a.length := by
        clear hV hto hpo hSo hway hway2 hlenW hm hBW hb hbh
        unfold wrap64; omega
      subst hp0
      cases bh with
      | false =>
        have hbf := b_false hb (fun h => by have := hbh.2 (hold_of h.2 hrx hobj); cases this)
        subst hbf
        have HH : Hid _ := hBW
        clear hb hbh hway2 hm hway hxi hSi hobj hle hdl hlenW hs hvq hBW hpo hSo hdone hx1 hx2 hcl hcm hKo hSm hov hform hhold hrx hfo hfit hval
        go_wp2_with (first
          | (go_at_call 147; refine hV.mono ?_; clear hV; rintro e w3 ⟨rfl, hB3, -⟩))
        go_ret
        exact ⟨rfl, HH.out.trans hB3⟩
      | true =>
        have hho := hbh.1 rfl
        have HH : Hid _ := And.intro hway2 (And.intro hdl (And.intro hBW (And.intro hdone (And.intro (form_step hway hform (o := o) (fun u hu => (hho.1 u hu).1)) (And.intro hho (And.intro hhold hobj))))))
        clear hb hbh hway2 hm hway hxi hSi hobj hle hdl hlenW hs hvq hBW hpo hSo hdone hx1 hx2 hcl hcm hKo hSm hov hform hhold hrx hfo hval hho
        go_wp2_with (first
          | (go_at_call 147; refine hV.mono ?_; clear hV; rintro e w3 ⟨rfl, hB3, hto3'⟩))
        obtain ⟨vt', hto3⟩ := hto3' (by simp)
        obtain ⟨hway2, hdl, hBW, hdone, hfs, hho, hhold, hobj⟩ := HH.out
        have key : EachC w0 bt bM c (some ⟨b0, off, none⟩) S [v] (S.length - (done.length + 1)) w3 := by
          refine ⟨_, vt', x :: done, hto3.more ?_, hway2, hfs, ?_, hBW.trans hB3, by rw [hdl]⟩
          · rw [hdl]
            have := hsm.vals o hoS
            omega
          · intro y hy o' ho'
            rcases List.mem_cons.1 hy with rfl | hy
            · rw [hobj] at ho'; cases ho'; exact hho
            · exact hhold y hy o' ho'
        refine ⟨⟨_, key⟩, ?_⟩
        have := least_le key
        omega

set_option maxRecDepth 20000 in
set_option maxHeartbeats 2000000 in
/-- show's Check. -/
theorem Check_in {p : Option Addr} {S : List Om} (c : Nat) (hs : IsSt w p S) (hsm : Small S) (hfit : ∀ o ∈ S, ∀ v ∈ o.l, v.fits) (v : Vl) (b : Bool) (hb : b = true ↔ checkP S v) :
    Calls Tryz.prog 43 #[.slice p S.length c, .agg #[.int .u8 v.k, .int .i64 v.n]] w fun e w' => e = .returned (.bool b) ∧ Below w.heap.size w w' := by
  have hSm : S.length ≤ maxLen := Nat.le_trans hsm.len (by unfold maxLen; decide)
  have hv0 := heap_alloc_new w (.cells #[.int .u8 v.k, .int .i64 v.n] 27)
  have hA := below1 w (.cells #[.int .u8 v.k, .int .i64 v.n] 27)
  have hs1 := hs.below hA
  have H1 := tourOf_in (p := p) (n := S.length) (c := c) (w.alloc (.cells #[.int .u8 v.k, .int .i64 v.n] 27))
  obtain ⟨bm, hbm⟩ := b_of (mayP S v)
  have HM := fun (W : World) (bt bM : Nat) (hB : Below (w.alloc (.cells #[.int .u8 v.k, .int .i64 v.n] 27)).heap.size (w.alloc (.cells #[.int .u8 v.k, .int .i64 v.n] 27)) W) (ht : IsTo (w.alloc (.cells #[.int .u8 v.k, .int .i64 v.n] 27)).heap.size bt bM (.slice p S.length c) (.slice none 0 0) 0 ⟨fun _ => 0, []⟩ W) => mayBe_in hs1 hSm hB ht (by omega) v bm hbm
  cases bm with
  | false =>
    have hbf := b_false hb (fun h => by
      have : mayP S v := ⟨h.1, fun o ho => (h.2 v.n o (Reach.root (by simp) (by rw [ho]; simp)) (leadO_at ho).1).1⟩
      have := hbm.2 this; cases this)
    subst hbf
    clear hb hbm
    go_enter Tryz.func43, Tryz.ntmps43
    go_wp2_with (first
      | (go_at_call 144; refine H1.mono ?_; clear H1; rintro e w1 ⟨bt, bM, rfl, hto, hB1⟩; have hvl := (hB1.block w.heap.size (by simp)).trans hv0; obtain ⟨v0, v1⟩ := cell_row2 ((Below.heap_alloc w1 (.cells #[.pointer (some ⟨bt, 0, none⟩)] 135) _ (Array.getElem?_eq_some_iff.1 hvl).1).trans hvl); obtain ⟨x0, -⟩ := cell_row1 (heap_alloc_new w1 (.cells #[.pointer (some ⟨bt, 0, none⟩)] 135)); have hB2 := hB1.alloc hB1.size (.cells #[.pointer (some ⟨bt, 0, none⟩)] 135); have hto2 := hto.below (below1 w1 (.cells #[.pointer (some ⟨bt, 0, none⟩)] 135)))
      | (go_at_call 145; refine (HM _ _ _ hB2 hto2).mono ?_; clear HM; rintro e w3 ⟨rfl, vt', hto3, hS3⟩))
    go_ret
    exact ⟨rfl, hA.trans ((hB2.trans (hto2.below0 hS3)).mono hA.size)⟩
  | true =>
    have hmy := hbm.1 rfl
    clear hbm
    have HE := fun (W : World) (bt bM : Nat) h => eachC_in (w := W) (bt := bt) (bM := bM) (c := c) hs1 hsm hfit hmy.1 b hb h
    go_enter Tryz.func43, Tryz.ntmps43
    go_wp2_with (first
      | (go_at_call 144; refine H1.mono ?_; clear H1; rintro e w1 ⟨bt, bM, rfl, hto, hB1⟩; have hvl := (hB1.block w.heap.size (by simp)).trans hv0; obtain ⟨v0, v1⟩ := cell_row2 ((Below.heap_alloc w1 (.cells #[.pointer (some ⟨bt, 0, none⟩)] 135) _ (Array.getElem?_eq_some_iff.1 hvl).1).trans hvl); have hcb := heap_alloc_new w1 (.cells #[.pointer (some ⟨bt, 0, none⟩)] 135); obtain ⟨x0, -⟩ := cell_row1 hcb; have hB2 := hB1.alloc hB1.size (.cells #[.pointer (some ⟨bt, 0, none⟩)] 135); have hto2 := hto.below (below1 w1 (.cells #[.pointer (some ⟨bt, 0, none⟩)] 135)))
      | (go_at_call 145; refine (HM _ _ _ hB2 hto2).mono ?_; clear HM; rintro e w3 ⟨rfl, vt', hto3, hS3⟩
         have hbl := hto.lt; have hMl := hto.cnt.lt
         obtain ⟨x1, -⟩ := cell_row1 ((hS3.block w1.heap.size (by simp) (by omega) (by omega) (by simp [Value.ownBlock])).trans hcb)
         have hB3 := hB2.trans (hto2.below0 hS3)
         have hE := HE w3 bt bM ⟨_, _, vt', [], hto3.more (by simp), Way.start S [v], (by
           intro y hy o ho
           obtain ⟨new, h1, -, h3, -, -⟩ := meetL_spec S [v] ⟨fun _ => 0, []⟩ (by simp) (by simp)
           rw [h1] at hy
           simp at hy
           obtain ⟨-, u, hu, hl, rfl⟩ := h3 y hy
           simp at hu; subst hu
           cases hle : leadO S u with
           | none => exact (hl hle).elim
           | some o2 =>
             have := (leadO_at hle).1
             rw [ho] at this
             cases this
             exact hmy.2 o hle), (by simp), hB3, rfl⟩; clear HE)
      | (go_at_call 146; refine hE.mono ?_; clear hE; rintro e w4 ⟨rfl, hB4⟩))
    go_ret
    exact ⟨rfl, hA.trans (hB4.mono hA.size)⟩

end Go.Proofs.YtgokofomoachaaaGreatDoor
