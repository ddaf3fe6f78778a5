/- show's Words, of any store: what is added wraps. -/
import Derived.Test.YtgokofomoachaaaGreatDoorShCheck
import Derived.Test.YtgokofomoachaaaGreatDoorPzKeep
import Derived.Test.YtgokofomoachaaaGreatDoorPbBin
import Derived.Test.YtgokofomoachaaaGreatDoorPmLives2
import Derived.Test.YtgokofomoachaaaGreatDoorPoSame2
namespace Go.Proofs.YtgokofomoachaaaGreatDoor
set_option linter.unusedVariables false
set_option linter.unusedSimpArgs false
open Go.RowKit

variable {w : World}

/-- A number as it is held. -/
def w64 (n : Nat) : Int := (((n : Int) + 9223372036854775808) % 18446744073709551616) - 9223372036854775808

theorem w64_small {n : Nat} (h : n ≤ 9223372036854775807) : w64 n = n := by unfold w64; omega

theorem w64_add (a b : Nat) : IntKind.i64.wrap (w64 a + w64 b) = w64 (a + b) := by
  rw [IntKind.wrap_i64]
  unfold w64
  omega

set_option maxHeartbeats 1000000 in
theorem words_any (o : Om) (q : Option Addr) (c : Nat) (w : World) (hs : o.s.size ≤ 1048576) (hl : o.l.length ≤ 1048576) (hr : o.room ≤ 9223372036854775807) :
    Calls Tryz.prog 150 #[objV o q c] w fun e w' => Below w.heap.size w w' ∧ e = .returned (.int .i64 (w64 (wordsO o))) := by
  by_cases hroom : o.room ≤ 1099511627776
  · refine (words_in o q c w hs hl hroom).mono ?_
    rintro e w' ⟨h1, rfl⟩
    refine ⟨h1, ?_⟩
    rw [w64_small]
    unfold wordsO
    split
    · omega
    · split
      · omega
      · split <;> omega
  · by_cases h4 : o.k = 4 ∨ o.k = 5
    · have e : wordsO o = 4 + 2 * o.room.toNat := by unfold wordsO; rw [if_neg (by omega), if_neg (by omega), if_pos ⟨h4, by omega⟩]
      have e2 : w64 (wordsO o) = IntKind.i64.wrap (4 + IntKind.i64.wrap (2 * o.room)) := by
        rw [e, IntKind.wrap_i64, IntKind.wrap_i64]
        unfold w64
        omega
      rw [e2]
      unfold objV
      have hr0 : 0 < o.room := by omega
      rcases h4 with h | h
      all_goals
        rw [h]
        clear e e2 h
        go_enter Tryz.func150, Tryz.ntmps150
        go_wp2
        go_ret
        first | exact ⟨below1 _ _, rfl⟩ | (refine ⟨below1 _ _, ?_⟩; simp [IntKind.wrap_i64]; unfold wrap64; rfl)
    · -- the room is not looked at
      by_cases h3 : o.k = 3
      · have e : wordsO o = 2 + (o.s.size + 7) / 8 := by unfold wordsO; rw [if_pos h3]
        have e2 : w64 (wordsO o) = 2 + ((o.s.size : Int) + 7) / 8 := by rw [e, w64_small (by omega)]; omega
        rw [e2]
        unfold objV
        rw [h3]
        clear e e2 h3 h4
        go_enter Tryz.func150, Tryz.ntmps150
        go_wp2
        go_ret
        exact ⟨below1 _ _, rfl⟩
      · by_cases h6 : o.k = 6
        · have e : wordsO o = 2 + 2 * o.l.length := by unfold wordsO; rw [if_neg h3, if_pos h6]
          have e2 : w64 (wordsO o) = 2 + 2 * (o.l.length : Int) := by rw [e, w64_small (by omega)]; omega
          rw [e2]
          unfold objV
          rw [h6]
          clear e e2 h3 h4 h6
          go_enter Tryz.func150, Tryz.ntmps150
          go_wp2
          go_ret
          exact ⟨below1 _ _, rfl⟩
        · have e : wordsO o = 3 := by unfold wordsO; rw [if_neg h3, if_neg h6, if_neg (by omega)]
          have e2 : w64 (wordsO o) = 3 := by rw [e]; rfl
          have b3 : ¬ ((o.k : Int) = 3) := by omega
          have b4 : ¬ ((o.k : Int) = 4) := by omega
          have b5 : ¬ ((o.k : Int) = 5) := by omega
          have b6 : ¬ ((o.k : Int) = 6) := by omega
          rw [e2]
          unfold objV
          clear e e2 h3 h4 h6
          go_enter Tryz.func150, Tryz.ntmps150
          go_wp2
          go_ret
          exact ⟨below1 _ _, rfl⟩

set_option maxRecDepth 20000 in
set_option maxHeartbeats 2000000 in
/-- What is done at an object. -/
theorem visitV_in {w0 : World} {bt bM bn bp K c qc : Nat} {vt : Value} {t : Tr} {p q : Option Addr} {S : List Om} {o : Om} {n : Nat} (hs : IsSt w0 p S) (hl : S.length ≤ maxLen) (hv : Vals w0 q o.l) (hB : Below w0.heap.size w0 w) (ht : IsTo w0.heap.size bt bM (.slice p S.length c) vt K t w) (hK : K + o.l.length ≤ 1099511627776)
    (h1 : o.s.size ≤ 1048576) (h2 : o.l.length ≤ 1048576) (h3 : o.room ≤ 9223372036854775807)
    (hbase : w0.heap.size ≤ bn) (hbn : w.heap[bn]? = some (.cells #[.int .i64 (w64 n)] 3 (0, 0))) (hbp : w.heap[bp]? = some (.cells #[.pointer (some ⟨bt, 0, none⟩)] 132 (0, 0))) :
    Calls Tryz.prog 149 #[objV o q qc, .pointer (some ⟨bn, 0, none⟩), .pointer (some ⟨bp, 0, none⟩)] w fun e w' => e = .returned (.bool true) ∧ ∃ vt', IsTo w0.heap.size bt bM (.slice p S.length c) vt' (K + o.l.length) (meetL S t o.l) w' ∧
      w'.heap[bn]? = some (.cells #[.int .i64 (w64 (n + wordsO o))] 3 (0, 0)) ∧ w'.heap[bp]? = some (.cells #[.pointer (some ⟨bt, 0, none⟩)] 132 (0, 0)) ∧ Below w0.heap.size w w' := by
  have hW := words_any o q qc (w.alloc (.cells #[.int .u8 o.k, .string o.s, .slice q o.l.length qc, .int .i64 o.room, .int .i64 o.fn] 96)).drew h1 h2 h3
  unfold objV at hW ⊢
  have hob := heap_alloc_new w (.cells #[.int .u8 o.k, .string o.s, .slice q o.l.length qc, .int .i64 o.room, .int .i64 o.fn] 96)
  have hbn1 := (Below.heap_alloc w (.cells #[.int .u8 o.k, .string o.s, .slice q o.l.length qc, .int .i64 o.room, .int .i64 o.fn] 96) bn (Array.getElem?_eq_some_iff.1 hbn).1).trans hbn
  have hbp1 := (Below.heap_alloc w (.cells #[.int .u8 o.k, .string o.s, .slice q o.l.length qc, .int .i64 o.room, .int .i64 o.fn] 96) bp (Array.getElem?_eq_some_iff.1 hbp).1).trans hbp
  have ht1 := ht.below (below1 w (.cells #[.int .u8 o.k, .string o.s, .slice q o.l.length qc, .int .i64 o.room, .int .i64 o.fn] 96))
  have hB1 := hB.trans ((below1 w (.cells #[.int .u8 o.k, .string o.s, .slice q o.l.length qc, .int .i64 o.room, .int .i64 o.fn] 96)).mono hB.size)
  have hbo : (w.alloc (.cells #[.int .u8 o.k, .string o.s, .slice q o.l.length qc, .int .i64 o.room, .int .i64 o.fn] 96)).heap.size = w.heap.size + 1 := by simp
  have hnl := (Array.getElem?_eq_some_iff.1 hbn).1
  have hpl := (Array.getElem?_eq_some_iff.1 hbp).1
  generalize hWA : w.alloc (.cells #[.int .u8 o.k, .string o.s, .slice q o.l.length qc, .int .i64 o.room, .int .i64 o.fn] 96) = WA at *
  obtain ⟨c1, f1⟩ := cell_row1 hbn1
  obtain ⟨⟨o0, o1, o2, o3, o4⟩, -⟩ := cell_row5 hob
  have hwr := w64_add n (wordsO o)
  go_enter Tryz.func149, Tryz.ntmps149
  go_wp2
  go_region_with
    ((go_at_call 150; refine hW.mono ?_; rintro e w1 ⟨hBw, rfl⟩; have hbn2 := (hBw.block _ (Array.getElem?_eq_some_iff.1 hbn1).1).trans hbn1; obtain ⟨d1, g1⟩ := cell_row1 hbn2))
  all_goals
    have hBw' : Below WA.heap.size WA w1 := (below_drew (Below.refl _ WA)).trans hBw
    have hne1 : bn ≠ w.heap.size := by omega
    have hob2 := (hBw.block _ (Array.getElem?_eq_some_iff.1 hob).1).trans hob
    have hbp2 := (hBw.block _ (Array.getElem?_eq_some_iff.1 hbp1).1).trans hbp1
    have hpn : bp ≠ bn := by rintro rfl; rw [hbn] at hbp; cases hbp
    have hbt : bt ≠ bn := by rintro rfl; rw [ht.blk] at hbn; cases hbn
    have hMn : bM ≠ bn := fun e => ht.cnt.other hbn e.symm
    have hvn : vt.ownBlock ≠ some bn := fun e => by
      obtain ⟨cur, hc⟩ := row_obj ht.todo e
      rw [hbn] at hc
      cases hc
    have hbt2 : bt ≠ bp := by rintro rfl; rw [ht.blk] at hbp; cases hbp
    have hMp : bM ≠ bp := fun e => ht.cnt.other hbp e.symm
    have hvp : vt.ownBlock ≠ some bp := fun e => by
      obtain ⟨cur, hc⟩ := row_obj ht.todo e
      rw [hbp] at hc
      cases hc
    have ht2 := (ht1.below hBw').kept (w' := w1.setCell ⟨bn, 0, none⟩ (.int .i64 (w64 (n + wordsO o)))) (fun k hk => heap_setCell_other _ ⟨bn, 0, none⟩ k _ (by
      rintro rfl
      rcases hk with e | e | e
      · exact hbt e.symm
      · exact hMn e.symm
      · exact hvn e))
    have hob3 := (heap_setCell_other w1 ⟨bn, 0, none⟩ w.heap.size (.int .i64 (w64 (n + wordsO o))) (Ne.symm hne1)).trans hob2
    have hbp3 := (heap_setCell_other w1 ⟨bn, 0, none⟩ bp (.int .i64 (w64 (n + wordsO o))) hpn).trans hbp2
    have hbn3 : (w1.setCell ⟨bn, 0, none⟩ (.int .i64 (w64 (n + wordsO o)))).heap[bn]? = some (.cells #[.int .i64 (w64 (n + wordsO o))] 3 (0, 0)) := by
      have := heap_setCell_same w1 bn 0 _ _ (.int .i64 (w64 (n + wordsO o))) hbn2
      simpa using this
    have hsz0 : w0.heap.size ≤ w.heap.size := hB.size
    have hB3 : w0.heap.size ≤ bn → Below w0.heap.size WA (w1.setCell ⟨bn, 0, none⟩ (.int .i64 (w64 (n + wordsO o)))) := fun h0 => below_set (hBw'.mono hB1.size) h0 _
    have hB4 : Below w0.heap.size w0 (w1.setCell ⟨bn, 0, none⟩ (.int .i64 (w64 (n + wordsO o)))) := hB1.trans (hB3 hbase)
    have hBA : Below w0.heap.size w WA := by rw [← hWA]; exact (below1 w (.cells #[.int .u8 o.k, .string o.s, .slice q o.l.length qc, .int .i64 o.room, .int .i64 o.fn] 96)).mono hsz0
    have hsz3 : w.heap.size < (w1.setCell ⟨bn, 0, none⟩ (.int .i64 (w64 (n + wordsO o)))).heap.size := (Array.getElem?_eq_some_iff.1 hob3).1
    generalize w1.setCell ⟨bn, 0, none⟩ (.int .i64 (w64 (n + wordsO o))) = W2 at *
    have hM := meet_in (cq := qc) hs hl hv hB4 ht2 hK
    obtain ⟨p0, -⟩ := cell_row1 hbp3
    obtain ⟨⟨o0', o1', o2', o3', o4'⟩, -⟩ := cell_row5 hob3
    clear hW hob hbn1 hbp1 ht1 hBw hbn2 d1 g1 c1 f1 o0 o1 o2 o3 o4 hob2 hbp2 hBw' hWA
    go_wp2_with (first
      | (go_at_call 148; refine hM.mono ?_; clear hM; rintro e w3 ⟨rfl, vt', hto', hS'⟩))
    go_ret
    refine ⟨rfl, vt', hto', ?_, ?_, hBA.trans ((hB3 hbase).trans (ht2.below0 hS'))⟩
    · rw [hS'.block bn (by omega) (Ne.symm hbt) (Ne.symm hMn) (Ne.symm hvn), hbn3]
    · rw [hS'.block bp (by omega) (Ne.symm hbt2) (Ne.symm hMp) (Ne.symm hvp), hbp3]


/-- What stands before a round. -/
def EachV (w0 : World) (bt bM bn bp c : Nat) (p : Option Addr) (S : List Om) (roots : List Vl) (m : Nat) (w : World) : Prop :=
  ∃ (t : Tr) (vt : Value) (done : List Int), IsTo w0.heap.size bt bM (.slice p S.length c) vt (100000 + 100000 * done.length) t w ∧ Way S roots t done ∧ w.heap[bn]? = some (.cells #[.int .i64 (w64 (sumAt S done))] 3 (0, 0)) ∧ w.heap[bp]? = some (.cells #[.pointer (some ⟨bt, 0, none⟩)] 132 (0, 0)) ∧ Below w0.heap.size w0 w ∧ m = S.length - done.length

set_option maxRecDepth 20000 in
set_option maxHeartbeats 2000000 in
theorem eachV_in {w0 : World} {bt bM bn bp c : Nat} {p : Option Addr} {S : List Om} {roots : List Vl} (hs : IsSt w0 p S) (hf : Small S) (hrm : ∀ o ∈ S, o.room ≤ 9223372036854775807) (hbase : w0.heap.size ≤ bn) (h : ∃ m, EachV w0 bt bM bn bp c p S roots m w) :
    Calls Tryz.prog 146 #[.pointer (some ⟨bt, 0, none⟩), .func (.func 149) #[] #[.pointer (some ⟨bn, 0, none⟩), .pointer (some ⟨bp, 0, none⟩)]] w fun e w' => e = .returned (.bool true) ∧ w'.heap[bn]? = some (.cells #[.int .i64 (w64 (wordsR S roots))] 3 (0, 0)) ∧ Below w0.heap.size w0 w' := by
  have hlen := hf.len
  have hSm : S.length ≤ maxLen := Nat.le_trans hlen (by unfold maxLen; decide)
  go_enter Tryz.func146, Tryz.ntmps146
  go_wp2
  go_loopw [5] (fun k wr => ∃ m, EachV w0 bt bM bn bp c p S roots m wr) (fun k wr => least (EachV w0 bt bM bn bp c p S roots) wr)
  case atStart => exact h
  case round =>
    have hl := least_at hrel
    generalize hm : least (EachV w0 bt bM bn bp c p S roots) wr = m at hl
    obtain ⟨t, vt, done, hto, hway, hbn, hbp, hB, rfl⟩ := hl
    cases htd : t.todo with
    | nil =>
      obtain ⟨pv, cv, rfl, -, -, -⟩ := row_form hto.todo
      rw [htd] at hto
      obtain ⟨⟨t0, t1, t2⟩, -⟩ := cell_row3 hto.blk
      have HW : Hid _ := hway
      have HM : Hid _ := hm
      clear hm hway
      simp only [List.length_nil] at t2
      go_wp2
      go_ret
      have hway := HW.out
      obtain ⟨cnt, todo⟩ := t
      simp only at htd
      subst htd
      exact ⟨rfl, by rw [← hway.sum]; exact hbn, hB⟩
    | cons y r =>
      obtain ⟨a, x, hax⟩ := list_snoc t.todo (by rw [htd]; simp)
      obtain ⟨cnt, todo⟩ := t
      simp only at hax htd
      subst hax
      clear htd
      obtain ⟨pv, cv, rfl, hcl, hcm, hpg⟩ := row_form hto.todo
      obtain ⟨g, rfl⟩ := hpg (by simp)
      have hle : (a ++ [x]).length = a.length + 1 := by simp
      simp only [hle] at hto hcl
      have hlenW := hway.len
      obtain ⟨hx1, hx2, o, hobj, hk3, hk7⟩ := (hway.rch x (by simp)).num
      obtain ⟨hoS, i, hxi, hiS, hSi⟩ := objAt_mem hobj
      have hnd : x ∉ done := fun hm => by
        have := hway.nod
        rw [List.nodup_append] at this
        exact this.2.2 x (by simp) x hm rfl
      have hsum := sumAt_cons hnd hobj
      have hdl : (x :: done).length = done.length + 1 := by simp
      have hway2 := hway.step hobj
      have hdone : done.length < S.length := by simp at hlenW; omega
      obtain ⟨hpo, hSo⟩ := hto.popped
      have hcell : wr.cell? ⟨g, a.length, none⟩ = some (.int .i64 x) := row_cell (by have := hto.todo; simp only [hle] at this; exact this) (by simp) (by omega)
      obtain ⟨⟨t0, t1, t2⟩, ff0, ff1, ff2⟩ := cell_row3 hto.blk
      have hBW : Below w0.heap.size w0 (wr.setCell ⟨bt, 2, none⟩ (.slice (some ⟨g, 0, none⟩) a.length cv)) := hB.trans (hto.below0 hSo)
      obtain ⟨b0, off, hp0, s0, s1, ⟨q, cq, s2, hvq, -⟩, s3, s4⟩ := hs.look hBW hSi
      have hbn2 : (wr.setCell ⟨bt, 2, none⟩ (.slice (some ⟨g, 0, none⟩) a.length cv)).heap[bn]? = _ := (heap_setCell_other wr ⟨bt, 2, none⟩ bn _ (by rintro rfl; rw [hto.blk] at hbn; cases hbn)).trans hbn
      have hbp2 : (wr.setCell ⟨bt, 2, none⟩ (.slice (some ⟨g, 0, none⟩) a.length cv)).heap[bp]? = _ := (heap_setCell_other wr ⟨bt, 2, none⟩ bp _ (by rintro rfl; rw [hto.blk] at hbp; cases hbp)).trans hbp
      have hov := hf.vals o hoS
      have hKo : 100000 + 100000 * done.length + o.l.length ≤ 1099511627776 := by omega
      have ha40 : a.length ≤ 100000 + 100000 * 1048576 := by have := hto.len; simp only [hle] at this; omega
      have hV := visitV_in (qc := cq) (w := wr.setCell ⟨bt, 2, none⟩ (.slice (some ⟨g, 0, none⟩) a.length cv)) hs hSm hvq hBW hpo hKo (hf.str o hoS) (by omega) (hrm o hoS) hbase hbn2 hbp2
      unfold objV at hV
      have hpos : (0 : Int) < ((a.length + 1 : Nat) : Int) := by omega
      have hii : (i : Int) < (S.length : Int) := by omega
      have hal : (a.length : Int) < ((a.length + 1 : Nat) : Int) := by omega
      have hac : (a.length : Int) ≤ (cv : Int) := by omega
      have hw2 : IntKind.i64.wrap (x - 1) = i := by
        clear hV hsum hto hpo hSo hway hway2 hlenW hm hBW hbn2 hbp2
        rw [IntKind.wrap_i64]; omega
      have hw1 : wrap64 (a.length : Int) = a.length := by
        clear hV hsum hto hpo hSo hway hway2 hlenW hm hBW hbn2 hbp2
        unfold wrap64; omega
      subst hp0
      have HH : Hid _ := And.intro hsum (And.intro hway2 (And.intro hdl (And.intro hBW hdone)))
      clear hsum hway2 hm hway hxi hSi hobj hle hdl hlenW hs hvq hBW hpo hSo hnd hbn2 hbp2 hdone hx1 hx2 hcl hcm hKo hSm hov
      go_wp2_with (first
        | (go_at_call 149; refine hV.mono ?_; clear hV; rintro e w3 ⟨rfl, vt', hto3, hbn3, hbp3, hB3⟩))
      obtain ⟨hsum, hway2, hdl, hBW, hdone⟩ := HH.out
      have key : EachV w0 bt bM bn bp c (some ⟨b0, off, none⟩) S roots (S.length - (done.length + 1)) w3 := by
        refine ⟨_, vt', x :: done, hto3.more ?_, hway2, ?_, hbp3, hBW.trans hB3, by rw [hdl]⟩
        · rw [hdl]
          have := hf.vals o hoS
          omega
        · rw [hsum, Nat.add_comm]; exact hbn3
      refine ⟨⟨_, key⟩, ?_⟩
      have := least_le key
      omega

set_option maxRecDepth 20000 in
set_option maxHeartbeats 2000000 in
/-- show's Words. -/
theorem Words_any {p q : Option Addr} {S : List Om} {roots : List Vl} (c cq : Nat) (hs : IsSt w p S) (hf : Small S) (hrm : ∀ o ∈ S, o.room ≤ 9223372036854775807) (hv : Vals w q roots) (hr : roots.length ≤ 100000) :
    Calls Tryz.prog 44 #[.slice p S.length c, .slice q roots.length cq] w fun e w' => e = .returned (.int .i64 (w64 (wordsR S roots))) ∧ Below w.heap.size w w' := by
  have hlen := hf.len
  have hSm : S.length ≤ maxLen := Nat.le_trans hlen (by unfold maxLen; decide)
  have H1 := tourOf_in (p := p) (n := S.length) (c := c) w
  have H2 := fun (w1 : World) (vt : Value) (t : Tr) (bt bM : Nat) (hB : Below w.heap.size w w1) ht => meet_in (cq := cq) (vt := vt) (t := t) (K := 0) (bt := bt) (bM := bM) (c := c) (w := w1) hs hSm hv hB ht (by omega)
  go_enter Tryz.func44, Tryz.ntmps44
  go_wp2_with (first
    | (go_at_call 144; refine H1.mono ?_; clear H1; rintro e w1 ⟨bt, bM, rfl, hto, hB1⟩; have hto1 := hto.below (below1 w1 (.cells #[.pointer (some ⟨bt, 0, none⟩)] 132)); have hB1' := hB1.alloc hB1.size (.cells #[.pointer (some ⟨bt, 0, none⟩)] 132); have hbp := heap_alloc_new w1 (.cells #[.pointer (some ⟨bt, 0, none⟩)] 132); obtain ⟨c0, -⟩ := cell_row1 hbp)
    | (go_at_call 148; refine (H2 _ _ _ _ _ hB1' hto1).mono ?_; clear H2; rintro e w2 ⟨rfl, vt', hto2, hS2⟩
       have hbl := hto.lt; have hMl := hto.cnt.lt
       have hbp2 := (hS2.block w1.heap.size (by simp) (by omega) (by omega) (by simp [Value.ownBlock])).trans hbp
       have hB2 : Below w.heap.size w w2 := hB1'.trans (hto1.below0 hS2)
       have hbp3 := (Below.heap_alloc w2 (.cells #[.int .i64 0] 3) _ (Array.getElem?_eq_some_iff.1 hbp2).1).trans hbp2
       have hbn3 := heap_alloc_new w2 (.cells #[.int .i64 0] 3)
       have hto3 := hto2.below (below1 w2 (.cells #[.int .i64 0] 3))
       have hB3 := hB2.alloc hB2.size (.cells #[.int .i64 0] 3)
       have H3 := eachV_in (bp := w1.heap.size) (bn := w2.heap.size) (c := c) (roots := roots) hs hf hrm hB2.size ⟨_, _, vt', [], hto3.more (by simp; omega), Way.start S roots, (by rw [sumAt_nil, w64_small (by omega)]; exact hbn3), hbp3, hB3, rfl⟩
       obtain ⟨p0, -⟩ := cell_row1 hbp3; clear hbp2 hbp3 hbn3 hbp c0)
    | (go_at_call 146; refine H3.mono ?_; clear H3; rintro e w3 ⟨rfl, hbn4, hB4⟩; obtain ⟨n0, -⟩ := cell_row1 hbn4))
  go_ret
  exact ⟨rfl, hB4⟩


end Go.Proofs.YtgokofomoachaaaGreatDoor

namespace Go.Proofs.YtgokofomoachaaaGreatDoor
set_option linter.unusedVariables false
set_option linter.unusedSimpArgs false
open Go.RowKit

variable {w : World}

theorem appR {base B n : Nat} {v4 : Value} {l more : List Vl} (hb : base ≤ w.heap.size) (hown : w.ownsRow base 27 2 v4 n (vcells l)) (hn : n ≤ 131072) (hv : Vals w (some ⟨B, 0, none⟩) more) (h0 : 0 < more.length) (hm : more.length ≤ 3) : ∃ g5 c5 w5, (Builtin.append_ #[47, 47] 47 #[v4, .slice (some ⟨B, 0, none⟩) more.length more.length]).run Tryz.prog w = .ok (.slice (some ⟨g5, 0, none⟩) (n + more.length) c5) w5 ∧ w5.ownsRow base 27 2 (.slice (some ⟨g5, 0, none⟩) (n + more.length) c5) (n + more.length) (vcells (l ++ more)) ∧ Below base w w5 := by
  obtain ⟨i0, hi, hz0, hz1, hz2⟩ := info_parts infoVq
  obtain ⟨b0, off, e, -, hvc⟩ := vals_cells hv h0
  obtain ⟨v5, w5, h1, h2, h3, -⟩ := run_append_own (P := Tryz.prog) (w := w) base 47 47 27 i0 (.agg #[.int .u8 0, .int .i64 0]) 2 16 Tryz.underlying47 hi hz0 hz1 hz2 rfl (by decide) v4 n (vcells l) hown ⟨B, 0, none⟩ more.length more.length (vcells more) (vcells_len _) hvc (vcells_one _) (by unfold maxLen; omega) (by omega) hb
  rw [← vcells_append] at h2
  obtain ⟨p5, c5, rfl, -, -, hp5⟩ := row_form h2
  obtain ⟨g5, rfl⟩ := hp5 (by omega)
  exact ⟨g5, c5, w5, h1, h2, rbelow_grown h3 (fun q e => (hown.lt q e).1) hb⟩

theorem one_row (w : World) (v : Vl) : (w.alloc (.cells #[.int .u8 v.k, .int .i64 v.n] 27)).ownsRow w.heap.size 27 2 (.slice (some ⟨w.heap.size, 0, none⟩) 1 1) 1 (vcells [v]) :=
  ⟨rfl, .inr ⟨w.heap.size, 1, _, rfl, Nat.le_refl _, heap_alloc_new w _, Nat.le_refl _, by unfold maxLen; decide, rfl, rfl⟩⟩

theorem neq_nil (w : World) : (binOp .neq 27 (.agg #[.int .u8 0, .int .i64 0]) (.agg #[.int .u8 0, .int .i64 0])).run Tryz.prog w = .ok (.bool false) w := by go_simp

theorem vals_two {p : Option Addr} {a b c : Vl} (h : Vals w p [a, b, c]) : Vals w p [a, b] := fun j x hj => h j x (by
  have hlt := (List.getElem?_eq_some_iff.1 hj).1
  simp at hlt
  match j, hlt with
  | 0, _ => simpa using hj
  | 1, _ => simpa using hj)

theorem row6Z {W : World} {g : Nat} {a b c d e f : Value} {t : TypeId} (h : W.heap[g]? = some (.cells #[a, b, c, d, e, f] t (0, 0))) : W.cell? ⟨g, 0, none⟩ = some a ∧ W.cell? ⟨g, 1, none⟩ = some b ∧ W.cell? ⟨g, 2, none⟩ = some c ∧ W.cell? ⟨g, 3, none⟩ = some d ∧ W.cell? ⟨g, 4, none⟩ = some e ∧ W.cell? ⟨g, 5, none⟩ = some f :=
  ⟨by rw [cell_of_row W g 0 _ _ _ h]; rfl, by rw [cell_of_row W g 1 _ _ _ h]; rfl, by rw [cell_of_row W g 2 _ _ _ h]; rfl, by rw [cell_of_row W g 3 _ _ _ h]; rfl, by rw [cell_of_row W g 4 _ _ _ h]; rfl, by rw [cell_of_row W g 5 _ _ _ h]; rfl⟩

theorem toList_nn {s : ByteArray} (h : s ≠ ⟨#[]⟩) : ¬ s.toList = [] := toList_ne h

/-- A deed that is done, in memory: what it came to, and its store. -/
structure DidW (S : List Om) (R : List Vl) (W : World) (lb i : Nat) (D : Dv) (px : Option Addr) (cx : Nat) : Prop where
  keep : KeepD S R D
  st : IsSt W px D.S
  c0 : W.cell? ⟨lb, i * 5, none⟩ = some (.slice px D.S.length cx)
  c1 : W.cell? ⟨lb, i * 5 + 1, none⟩ = some (.int .u8 D.v.k)
  c2 : W.cell? ⟨lb, i * 5 + 2, none⟩ = some (.int .i64 D.v.n)
  c3 : W.cell? ⟨lb, i * 5 + 3, none⟩ = some (.string D.t)
  c4 : W.cell? ⟨lb, i * 5 + 4, none⟩ = some (.int .i64 D.n)

set_option maxRecDepth 40000 in
set_option maxHeartbeats 16000000 in
theorem primKeeps_walk (p : Option Addr) (S : List Om) (c : Nat) (v0 v1 v2 : Vl) (w : World) (hs : IsSt w p S) (hb : Came S) (hfit : ∀ o ∈ S, o.fits) (hf0 : v0.fits) (hf1 : v1.fits) (hf2 : v2.fits) (htab : Tab w) :
    Calls Tryz.prog 7 #[.slice p S.length c, .agg #[.int .u8 v0.k, .int .i64 v0.n, .int .u8 v1.k, .int .i64 v1.n, .int .u8 v2.k, .int .i64 v2.n]] w fun e w' => e = .returned (.bool true) ∧ Below w.heap.size w w' := by
  have hv0 := heap_alloc_new w (.cells #[.int .u8 v0.k, .int .i64 v0.n, .int .u8 v1.k, .int .i64 v1.n, .int .u8 v2.k, .int .i64 v2.n] 81)
  have hA := below1 w (.cells #[.int .u8 v0.k, .int .i64 v0.n, .int .u8 v1.k, .int .i64 v1.n, .int .u8 v2.k, .int .i64 v2.n] 81)
  have HL := fun (W : World) => lives_in W
  have H1 := beyond11_in c (hs.below hA) hb
  go_enter Tryz.func7, Tryz.ntmps7
  go_wp2_with (first
    | (go_at_call 8; (with_reducible refine H1.mono ?_); clear H1; rintro e w1 ⟨b9, rfl, hsm0, hB0⟩; refine halt_here ?_))
  unfold Halted
  have hB1 : Below w.heap.size w w1 := hA.trans (hB0.mono hA.size)
  have f1 := (hB0.block w.heap.size (by simp)).trans hv0
  have lf1 := (Array.getElem?_eq_some_iff.1 f1).1
  cases b9 with
  | true =>
    clear hsm0
    go_wp2_with (first
      | (go_at_call 9; (with_reducible refine (HL _).mono ?_); rintro e wz ⟨rfl, hBz⟩))
    go_ret
    exact ⟨rfl, hB1.trans (hBz.mono hB1.size)⟩
  | false =>
  obtain ⟨hsum, hsm⟩ := hsm0 rfl
  clear hsm0
  have hl : S.length ≤ 1048576 := by omega
  have hw5 : ∀ o ∈ S, o.l.length ≤ 50000 := fun o ho => (hsm o ho).2
  have hw : ∀ o ∈ S, o.l.length ≤ 1000000 := fun o ho => by have := hsm o ho; omega
  have mk : ∀ (W : World), Below w.heap.size w W → Ask W p S := fun W h => ⟨hs.below h, hl, fun o ho => by have := hsm o ho; omega, fun o ho => by have := hsm o ho; omega, hfit⟩
  have FB : ∀ W, Below w1.heap.size w1 W → W.cell? ⟨w.heap.size, 0, none⟩ = some (.int .u8 v0.k) ∧ W.cell? ⟨w.heap.size, 1, none⟩ = some (.int .i64 v0.n) ∧ W.cell? ⟨w.heap.size, 2, none⟩ = some (.int .u8 v1.k) ∧ W.cell? ⟨w.heap.size, 3, none⟩ = some (.int .i64 v1.n) ∧ W.cell? ⟨w.heap.size, 4, none⟩ = some (.int .u8 v2.k) ∧ W.cell? ⟨w.heap.size, 5, none⟩ = some (.int .i64 v2.n) := fun W hb => row6Z ((hb.block _ lf1).trans f1)
  have B1 : Below w1.heap.size w1 w1 := Below.refl _ _
  obtain ⟨x0, x1, x2, x3, x4, x5⟩ := FB w1 B1
  obtain ⟨c0, hc0⟩ := b_of (checkP S v0)
  have HC := (mk w1 (hB1.trans (B1.mono hB1.size))).check c v0 c0 hc0
  go_wp2_with (first
    | (go_at_call 43; (with_reducible refine HC.mono ?_); clear HC; rintro e w2 ⟨rfl, hX⟩; refine halt_here ?_))
  unfold Halted
  have B2 := B1.trans (hX.mono B1.size)
  clear x0 x1 x2 x3 x4 x5 hX
  cases c0 with
  | false =>
    go_wp2_with (first
      | (go_at_call 9; (with_reducible refine (HL _).mono ?_); rintro e wz ⟨rfl, hBz⟩))
    go_ret
    exact ⟨rfl, (hB1.trans (B2.mono hB1.size)).trans (hBz.mono (hB1.trans (B2.mono hB1.size)).size)⟩
  | true =>
  have hk0 := hc0.1 rfl
  clear hc0
  obtain ⟨x0, x1, x2, x3, x4, x5⟩ := FB w2 B2
  obtain ⟨c1, hc1⟩ := b_of (checkP S v1)
  have HC := (mk w2 (hB1.trans (B2.mono hB1.size))).check c v1 c1 hc1
  go_wp2_with (first
    | (go_at_call 43; (with_reducible refine HC.mono ?_); clear HC; rintro e w3 ⟨rfl, hX⟩; refine halt_here ?_))
  unfold Halted
  have B3 := B2.trans (hX.mono B2.size)
  clear x0 x1 x2 x3 x4 x5 hX
  cases c1 with
  | false =>
    go_wp2_with (first
      | (go_at_call 9; (with_reducible refine (HL _).mono ?_); rintro e wz ⟨rfl, hBz⟩))
    go_ret
    exact ⟨rfl, (hB1.trans (B3.mono hB1.size)).trans (hBz.mono (hB1.trans (B3.mono hB1.size)).size)⟩
  | true =>
  have hk1 := hc1.1 rfl
  clear hc1
  obtain ⟨x0, x1, x2, x3, x4, x5⟩ := FB w3 B3
  obtain ⟨c2, hc2⟩ := b_of (checkP S v2)
  have HC := (mk w3 (hB1.trans (B3.mono hB1.size))).check c v2 c2 hc2
  go_wp2_with (first
    | (go_at_call 43; (with_reducible refine HC.mono ?_); clear HC; rintro e w4 ⟨rfl, hX⟩; refine halt_here ?_))
  unfold Halted
  have B4 := B3.trans (hX.mono B3.size)
  clear x0 x1 x2 x3 x4 x5 hX
  cases c2 with
  | false =>
    go_wp2_with (first
      | (go_at_call 9; (with_reducible refine (HL _).mono ?_); rintro e wz ⟨rfl, hBz⟩))
    go_ret
    exact ⟨rfl, (hB1.trans (B4.mono hB1.size)).trans (hBz.mono (hB1.trans (B4.mono hB1.size)).size)⟩
  | true =>
  have hk2 := hc2.1 rfl
  clear hc2
  obtain ⟨x0, x1, x2, x3, x4, x5⟩ := FB w4 B4
  have hrt : RootS S [v0, v1, v2] := ⟨fun v hv => by simp at hv; rcases hv with rfl | rfl | rfl; exact hk0; exact hk1; exact hk2, by omega, hw5, fun o ho => (hsm o ho).1, hfit, fun v hv => by simp at hv; rcases hv with rfl | rfl | rfl; exact hf0; exact hf1; exact hf2⟩
  have hwb := words_bound hrt.ok hw5
  have hnr := heap_alloc_new w4 (.cells #[.int .u8 v0.k, .int .i64 v0.n, .int .u8 v1.k, .int .i64 v1.n, .int .u8 v2.k, .int .i64 v2.n] 27)
  have hBr := below1 w4 (.cells #[.int .u8 v0.k, .int .i64 v0.n, .int .u8 v1.k, .int .i64 v1.n, .int .u8 v2.k, .int .i64 v2.n] 27)
  have B5 := B4.trans (hBr.mono B4.size)
  have hvr := one_vals3 hnr
  have hB5 := hB1.trans (B5.mono hB1.size)
  have HW := Words_any c 3 (mk _ hB5).st ⟨hl, fun o ho => by have := hsm o ho; omega, fun o ho => by have := hsm o ho; omega⟩ (fun o ho => (hfit o ho).2.2.1.2) hvr (by simp)
  simp only [List.length_cons, List.length_nil, Nat.zero_add, Nat.reduceAdd] at HW
  rw [w64_small (by omega)] at HW
  generalize hwas : wordsR S [v0, v1, v2] = was at HW hwb
  go_wp2_with (first
    | (go_at_call 44; (with_reducible refine HW.mono ?_); clear HW; rintro e w6 ⟨rfl, hX⟩; refine halt_here ?_))
  unfold Halted
  have B6 := B5.trans (hX.mono B5.size)
  have hvr6 := hvr.below hX
  clear x0 x1 x2 x3 x4 x5 hX hvr hnr hBr
  go_wp2_with fail
  generalize w4.heap.size = rb at *
  obtain ⟨Da, hDa⟩ := bin_ex S 1 v0 v1
  obtain ⟨Db, hDb⟩ := put_exP S v0 v1 v2
  obtain ⟨Dc, hDc⟩ := listR_exP S [v0, v1, v2]
  obtain ⟨Dd, hDd⟩ := mapR_ex S [v0, v1]
  obtain ⟨De, hDe⟩ : ∃ d, d = showP S v0 := ⟨_, rfl⟩
  obtain ⟨Df, hDf⟩ := get_exP S v0 v1
  have kA := bin_keep hrt hDa
  have kB := put_keep hrt (by simp) (by simp) (by simp) hDb
  have kC := list_keep hrt (by simp) hDc
  have kD := map_keep hrt (by simp) (by simp) hDd
  have kE : KeepD S [v0, v1, v2] De := by rw [hDe]; exact show_keep hrt v0 (fun h => by rw [txV_size]; omega)
  have kF := get_keep hrt (by simp) hDf
  have hB6 := hB1.trans (B6.mono hB1.size)
  have hD := below_drew (Below.refl w6.heap.size w6)
  have S0 := FB _ (B6.trans (hD.mono B6.size))
  have SW := FB _ B6
  have mc : ∀ W, Below w6.heap.size w6 W → Ask W p S ∧ Below w1.heap.size w1 W := fun W hb => ⟨mk W (hB6.trans (hb.mono hB6.size)), B6.trans (hb.mono B6.size)⟩
  have GA : ∀ W, Below w6.heap.size w6 W → Calls Tryz.prog 11 #[.slice p S.length c, .int .u8 1, .agg #[.int .u8 v0.k, .int .i64 v0.n], .agg #[.int .u8 v1.k, .int .i64 v1.n]] W (DidR W Da.S Da.v Da.t Da.n) := fun W hb => BinP_in (mc W hb).1 c 1 (by omega) v0 v1 Da hDa
  have GB : ∀ W, Below w6.heap.size w6 W → Calls Tryz.prog 41 #[.slice p S.length c, .agg #[.int .u8 v0.k, .int .i64 v0.n], .agg #[.int .u8 v1.k, .int .i64 v1.n], .agg #[.int .u8 v2.k, .int .i64 v2.n]] W (DidR W Db.S Db.v Db.t Db.n) := fun W hb => Put_in (mc W hb).1 c v0 v1 v2 Db hDb
  have hsumL : S.length + 1 + sumL S + 3 ≤ 1048576 := by omega
  have GC : ∀ W, Below w6.heap.size w6 W → Calls Tryz.prog 29 #[.slice p S.length c, .slice (some ⟨rb, 0, none⟩) 3 3] W (DidR W Dc.S Dc.v Dc.t Dc.n) := fun W hb => List_in (mc W hb).1 c 3 (hvr6.below hb) (fun e => by cases e) hrt.rfit (by simp) (by simp) (by unfold maxLen; decide) (by simpa using hsumL) Dc hDc
  have GD : ∀ W, Below w6.heap.size w6 W → Calls Tryz.prog 30 #[.slice p S.length c, .slice (some ⟨rb, 0, none⟩) 2 3] W (DidR W Dd.S Dd.v Dd.t Dd.n) := fun W hb => Map_in (mc W hb).1 c 3 (vals_two (hvr6.below hb)) (fun e => by cases e) (fun v hv => hrt.rfit v (by simp at hv; rcases hv with rfl | rfl <;> simp)) (by simp) (by simp) (by unfold maxLen; decide) (by simp; omega) Dd hDd
  have GE : ∀ W, Below w6.heap.size w6 W → Calls Tryz.prog 23 #[.slice p S.length c, .agg #[.int .u8 v0.k, .int .i64 v0.n]] W (DidR W De.S De.v De.t De.n) := fun W hb => by
    rw [hDe]
    exact pShow_in (mc W hb).1 c v0 (D := showP S v0) (.inr ⟨fun v hv => by simp at hv; subst hv; exact hk0, showD S v0, showD_done S v0, fun W' hB' => (Show_pl ((mc W hb).1.below hB') (htab.below ((hB6.trans (hb.mono hB6.size)).trans (hB'.mono (hB6.trans (hb.mono hB6.size)).size))) c v0 hf0 rfl).mono (fun _ _ hh => hh.V)⟩)
  have GF : ∀ W, Below w6.heap.size w6 W → Calls Tryz.prog 42 #[.slice p S.length c, .agg #[.int .u8 v0.k, .int .i64 v0.n], .agg #[.int .u8 v1.k, .int .i64 v1.n]] W (DidR W Df.S Df.v Df.t Df.n) := fun W hb => Get_in (mc W hb).1 c v0 v1 Df hDf
  have GAd := GA _ hD
  have HKK : Hid _ := And.intro hrt (And.intro hwas (And.intro hsm (And.intro hs (And.intro hfit htab))))
  clear GA hDa hDb hDc hDd hDe hDf hrt hwas hsm hs hfit htab hk0 hk1 hk2 hb hw5 f1 hv0 hA hB0
  go_region_held3 (fun W => W.cell? ⟨w.heap.size, 0, none⟩ = some (.int .u8 v0.k) ∧ W.cell? ⟨w.heap.size, 1, none⟩ = some (.int .i64 v0.n) ∧ W.cell? ⟨w.heap.size, 2, none⟩ = some (.int .u8 v1.k) ∧ W.cell? ⟨w.heap.size, 3, none⟩ = some (.int .i64 v1.n) ∧ W.cell? ⟨w.heap.size, 4, none⟩ = some (.int .u8 v2.k) ∧ W.cell? ⟨w.heap.size, 5, none⟩ = some (.int .i64 v2.n)) (first | with_reducible exact S0 | with_reducible exact SW | with_reducible exact T1 | with_reducible exact T2 | with_reducible exact T3 | with_reducible exact T4 | with_reducible exact T5 | with_reducible exact T6 | go_keep)
    (first
      | (go_at_call 42; (with_reducible refine GFd.mono ?_); clear GFd; rintro e y6 ⟨pf, qf, rfl, ⟨tf, hmf, hof⟩, hY6⟩; have hC6 := hC5.trans (hY6.mono hC5.size); have T6 := FB _ (mc _ hC6).2)
      | (go_at_call 23; (with_reducible refine GEd.mono ?_); clear GEd; rintro e y5 ⟨pe, qe, rfl, ⟨te, hme, hoe⟩, hY5⟩; have hC5 := hC4.trans (hY5.mono hC4.size); have T5 := FB _ (mc _ hC5).2; have GFd := GF _ hC5)
      | (go_at_call 30; (with_reducible refine GDd.mono ?_); clear GDd; rintro e y4 ⟨pd, qd, rfl, ⟨td, hmd, hod⟩, hY4⟩; have hC4 := hC3.trans (hY4.mono hC3.size); have T4 := FB _ (mc _ hC4).2; have GEd := GE _ hC4)
      | (go_at_call 29; (with_reducible refine GCd.mono ?_); clear GCd; rintro e y3 ⟨pc, qc, rfl, ⟨tc, hmc, hoc⟩, hY3⟩; have hC3 := hC2.trans (hY3.mono hC2.size); have T3 := FB _ (mc _ hC3).2; have GDd := GD _ hC3)
      | (go_at_call 41; (with_reducible refine GBd.mono ?_); clear GBd; rintro e y2 ⟨pb, qb, rfl, ⟨tb, hmb, hob⟩, hY2⟩; have hC2 := hC1.trans (hY2.mono hC1.size); have T2 := FB _ (mc _ hC2).2; have GCd := GC _ hC2)
      | (go_at_call 11; (with_reducible refine GAd.mono ?_); clear GAd; rintro e y1 ⟨pa, qa, rfl, ⟨ta, hma, hoa⟩, hY1⟩; have hC1 := hD.trans (hY1.mono hD.size); have T1 := FB _ (mc _ hC1).2; have GBd := GB _ hC1))
  clear S0 SW T1 T2 T3 T4 T5 T6 GB GC GD GE GF
  have sta : IsSt y1 pa Da.S := by
    obtain ⟨pz, cz, hvz, hst, -⟩ := hoa.isSt
    rw [hma] at hst hvz
    cases hvz
    exact hst
  clear hma hoa
  have stb : IsSt y2 pb Db.S := by
    obtain ⟨pz, cz, hvz, hst, -⟩ := hob.isSt
    rw [hmb] at hst hvz
    cases hvz
    exact hst
  clear hmb hob
  have stc : IsSt y3 pc Dc.S := by
    obtain ⟨pz, cz, hvz, hst, -⟩ := hoc.isSt
    rw [hmc] at hst hvz
    cases hvz
    exact hst
  clear hmc hoc
  have std : IsSt y4 pd Dd.S := by
    obtain ⟨pz, cz, hvz, hst, -⟩ := hod.isSt
    rw [hmd] at hst hvz
    cases hvz
    exact hst
  clear hmd hod
  have ste : IsSt y5 pe De.S := by
    obtain ⟨pz, cz, hvz, hst, -⟩ := hoe.isSt
    rw [hme] at hst hvz
    cases hvz
    exact hst
  clear hme hoe
  have stf : IsSt y6 pf Df.S := by
    obtain ⟨pz, cz, hvz, hst, -⟩ := hof.isSt
    rw [hmf] at hst hvz
    cases hvz
    exact hst
  clear hmf hof
  have hnd := heap_alloc_new y6 (.cells #[.slice pa Da.S.length qa, .int .u8 Da.v.k, .int .i64 Da.v.n, .string Da.t, .int .i64 Da.n, .slice pb Db.S.length qb, .int .u8 Db.v.k, .int .i64 Db.v.n, .string Db.t, .int .i64 Db.n, .slice pc Dc.S.length qc, .int .u8 Dc.v.k, .int .i64 Dc.v.n, .string Dc.t, .int .i64 Dc.n, .slice pd Dd.S.length qd, .int .u8 Dd.v.k, .int .i64 Dd.v.n, .string Dd.t, .int .i64 Dd.n, .slice pe De.S.length qe, .int .u8 De.v.k, .int .i64 De.v.n, .string De.t, .int .i64 De.n, .slice pf Df.S.length qf, .int .u8 Df.v.k, .int .i64 Df.v.n, .string Df.t, .int .i64 Df.n] 33)
  have hBd := below1 y6 (.cells #[.slice pa Da.S.length qa, .int .u8 Da.v.k, .int .i64 Da.v.n, .string Da.t, .int .i64 Da.n, .slice pb Db.S.length qb, .int .u8 Db.v.k, .int .i64 Db.v.n, .string Db.t, .int .i64 Db.n, .slice pc Dc.S.length qc, .int .u8 Dc.v.k, .int .i64 Dc.v.n, .string Dc.t, .int .i64 Dc.n, .slice pd Dd.S.length qd, .int .u8 Dd.v.k, .int .i64 Dd.v.n, .string Dd.t, .int .i64 Dd.n, .slice pe De.S.length qe, .int .u8 De.v.k, .int .i64 De.v.n, .string De.t, .int .i64 De.n, .slice pf Df.S.length qf, .int .u8 Df.v.k, .int .i64 Df.v.n, .string Df.t, .int .i64 Df.n] 33)
  have C7 := hC6.trans (hBd.mono hC6.size)
  have B7 := (mc _ C7).2
  have hvr7 := hvr6.below C7
  have CH6 := hBd
  have CH5 := hY6.trans (CH6.mono hY6.size)
  have CH4 := hY5.trans (CH5.mono hY5.size)
  have CH3 := hY4.trans (CH4.mono hY4.size)
  have CH2 := hY3.trans (CH3.mono hY3.size)
  have CH1 := hY2.trans (CH2.mono hY2.size)
  have sta := sta.below (CH1)
  have stb := stb.below (CH2)
  have stc := stc.below (CH3)
  have std := std.below (CH4)
  have ste := ste.below (CH5)
  have stf := stf.below CH6
  clear CH1 CH2 CH3 CH4 CH5 CH6 hY1 hY2 hY3 hY4 hY5 hY6 hC1 hC2 hC3 hC4 hC5 hC6 hvr6 hBd hD
  go_upto_region 7 with fail
  generalize y6.alloc (.cells #[.slice pa Da.S.length qa, .int .u8 Da.v.k, .int .i64 Da.v.n, .string Da.t, .int .i64 Da.n, .slice pb Db.S.length qb, .int .u8 Db.v.k, .int .i64 Db.v.n, .string Db.t, .int .i64 Db.n, .slice pc Dc.S.length qc, .int .u8 Dc.v.k, .int .i64 Dc.v.n, .string Dc.t, .int .i64 Dc.n, .slice pd Dd.S.length qd, .int .u8 Dd.v.k, .int .i64 Dd.v.n, .string Dd.t, .int .i64 Dd.n, .slice pe De.S.length qe, .int .u8 De.v.k, .int .i64 De.v.n, .string De.t, .int .i64 De.n, .slice pf Df.S.length qf, .int .u8 Df.v.k, .int .i64 Df.v.n, .string Df.t, .int .i64 Df.n] 33) = z at *
  generalize y6.heap.size = lb at *
  obtain ⟨hrt, hwas, hsm, hs, hfit, htab⟩ := HKK.out
  have rowd : ∀ j v, [.slice pa Da.S.length qa, .int .u8 Da.v.k, .int .i64 Da.v.n, .string Da.t, .int .i64 Da.n, .slice pb Db.S.length qb, .int .u8 Db.v.k, .int .i64 Db.v.n, .string Db.t, .int .i64 Db.n, .slice pc Dc.S.length qc, .int .u8 Dc.v.k, .int .i64 Dc.v.n, .string Dc.t, .int .i64 Dc.n, .slice pd Dd.S.length qd, .int .u8 Dd.v.k, .int .i64 Dd.v.n, .string Dd.t, .int .i64 Dd.n, .slice pe De.S.length qe, .int .u8 De.v.k, .int .i64 De.v.n, .string De.t, .int .i64 De.n, .slice pf Df.S.length qf, .int .u8 Df.v.k, .int .i64 Df.v.n, .string Df.t, .int .i64 Df.n][j]? = some v → z.cell? ⟨lb, j, none⟩ = some v := fun j v hj => by rw [cell_of_row z lb j _ _ _ hnd]; simpa using hj
  have hdid : ∀ i : Nat, i < 6 → ∃ D px cx, DidW S [v0, v1, v2] z lb i D px cx := by
    intro i hi
    match i, hi with
    | 0, _ => exact ⟨Da, pa, qa, kA, sta, rowd 0 _ rfl, rowd 1 _ rfl, rowd 2 _ rfl, rowd 3 _ rfl, rowd 4 _ rfl⟩
    | 1, _ => exact ⟨Db, pb, qb, kB, stb, rowd 5 _ rfl, rowd 6 _ rfl, rowd 7 _ rfl, rowd 8 _ rfl, rowd 9 _ rfl⟩
    | 2, _ => exact ⟨Dc, pc, qc, kC, stc, rowd 10 _ rfl, rowd 11 _ rfl, rowd 12 _ rfl, rowd 13 _ rfl, rowd 14 _ rfl⟩
    | 3, _ => exact ⟨Dd, pd, qd, kD, std, rowd 15 _ rfl, rowd 16 _ rfl, rowd 17 _ rfl, rowd 18 _ rfl, rowd 19 _ rfl⟩
    | 4, _ => exact ⟨De, pe, qe, kE, ste, rowd 20 _ rfl, rowd 21 _ rfl, rowd 22 _ rfl, rowd 23 _ rfl, rowd 24 _ rfl⟩
    | 5, _ => exact ⟨Df, pf, qf, kF, stf, rowd 25 _ rfl, rowd 26 _ rfl, rowd 27 _ rfl, rowd 28 _ rfl, rowd 29 _ rfl⟩
  have llb : lb < z.heap.size := (Array.getElem?_eq_some_iff.1 hnd).1
  clear rowd hnd sta stb stc std ste stf kA kB kC kD kE kF
  have hBz : Below w.heap.size w z := hB1.trans (B7.mono hB1.size)
  have HQ : Hid _ := And.intro hrt (And.intro hwas (And.intro hsm (And.intro hs (And.intro hfit htab))))
  clear hrt hwas hsm hs hfit htab HKK
  go_loopw [8] (fun s8 wr => ∃ i : Nat, s8 = .int .i64 i ∧ i ≤ 6 ∧ Below z.heap.size z wr) (fun s8 _ => 6 - (intOf s8).toNat)
  case atStart => exact ⟨0, rfl, by omega, Below.refl _ _⟩
  case round =>
    obtain ⟨i, rfl, hi, hBr⟩ := hrel
    have hszr := hBr.size
    by_cases hin : i < 6
    · have hin' : (i : Int) < 6 := by omega
      obtain ⟨D, px, cx, hdw⟩ := hdid i hin
      have FD : ∀ W, Below wr.heap.size wr W → W.cell? ⟨lb, i * 5, none⟩ = some (.slice px D.S.length cx) ∧ W.cell? ⟨lb, i * 5 + 1, none⟩ = some (.int .u8 D.v.k) ∧ W.cell? ⟨lb, i * 5 + 2, none⟩ = some (.int .i64 D.v.n) ∧ W.cell? ⟨lb, i * 5 + 3, none⟩ = some (.string D.t) ∧ W.cell? ⟨lb, i * 5 + 4, none⟩ = some (.int .i64 D.n) := fun W hb => by
        have hbz := hBr.trans (hb.mono hszr)
        exact ⟨(hbz.cell (p := ⟨lb, i * 5, none⟩) llb).trans hdw.c0, (hbz.cell (p := ⟨lb, i * 5 + 1, none⟩) llb).trans hdw.c1, (hbz.cell (p := ⟨lb, i * 5 + 2, none⟩) llb).trans hdw.c2, (hbz.cell (p := ⟨lb, i * 5 + 3, none⟩) llb).trans hdw.c3, (hbz.cell (p := ⟨lb, i * 5 + 4, none⟩) llb).trans hdw.c4⟩
      have hst : IsSt wr px D.S := hdw.st.below hBr
      have hkd := hdw.keep
      clear hdw
      have hBw : Below w.heap.size w wr := hBz.trans (hBr.mono hBz.size)
      rcases hkd.how with ⟨ht, hDS, hDn, hDv⟩ | ⟨ht, hn0, hn1, hww, hck⟩
      · have ht2 : D.t.toList.isEmpty = false := by
          have := toList_nn ht
          cases hq : D.t.toList with
          | nil => exact (this hq).elim
          | cons y r => rfl
        obtain ⟨d0, d1, d2, d3, d4⟩ := FD wr (Below.refl _ _)
        rw [hDS] at d0 hst
        rw [hDv] at d1 d2
        rw [hDn] at d4
        simp only [show ((0 : Nat) : Int) = 0 from rfl] at d1
        have HS := sameStore_in cx c hst (HQ.out.2.2.2.1.below hBw) (by omega) hw
        have hne := neq_nil
        clear hDS hDn hDv ht FD
        go_wp2_with (first
          | (go_at_call 45; (with_reducible refine HS.mono ?_); clear HS; rintro e u1 ⟨rfl, hX⟩; refine halt_here ?_))
        unfold Halted
        have hBx := hBr.trans (hX.mono hszr)
        have e1 : u1.cell? ⟨lb, i * 5 + 1, none⟩ = some (.int .u8 0) := (hX.cell (p := ⟨lb, i * 5 + 1, none⟩) (by show lb < wr.heap.size; omega)).trans d1
        have e2 : u1.cell? ⟨lb, i * 5 + 2, none⟩ = some (.int .i64 0) := (hX.cell (p := ⟨lb, i * 5 + 2, none⟩) (by show lb < wr.heap.size; omega)).trans d2
        have e4 : u1.cell? ⟨lb, i * 5 + 4, none⟩ = some (.int .i64 0) := (hX.cell (p := ⟨lb, i * 5 + 4, none⟩) (by show lb < wr.heap.size; omega)).trans d4
        clear d0 d1 d2 d3 d4
        go_wp2_with fail
        go_roundw
        case rel => exact ⟨i + 1, by simp, by omega, hBx⟩
        case measure => simp [intOf]; omega
      · have hls := hkd.len
        have hlen := HQ.out.1.len
        obtain ⟨d0, d1, d2, d3, d4⟩ := FD wr (Below.refl _ _)
        rw [ht] at d3
        have hno := heap_alloc_new wr (.cells #[.int .u8 D.v.k, .int .i64 D.v.n] 27)
        have hBo := below1 wr (.cells #[.int .u8 D.v.k, .int .i64 D.v.n] 27)
        have hro : (wr.alloc (.cells #[.int .u8 D.v.k, .int .i64 D.v.n] 27)).drew.ownsRow wr.heap.size 27 2 (.slice (some ⟨wr.heap.size, 0, none⟩) 1 1) 1 (vcells [D.v]) := row_kept (one_row wr D.v) (fun _ _ => rfl)
        have hvz : Vals (wr.alloc (.cells #[.int .u8 D.v.k, .int .i64 D.v.n] 27)).drew (some ⟨rb, 0, none⟩) [v0, v1, v2] := (hvr7.below hBr).below (below_drew hBo)
        obtain ⟨g5, c5, w5, hrun, hown, hB5r⟩ := appR (w := (wr.alloc (.cells #[.int .u8 D.v.k, .int .i64 D.v.n] 27)).drew) (base := wr.heap.size) (by show wr.heap.size ≤ (wr.alloc (.cells #[.int .u8 D.v.k, .int .i64 D.v.n] 27)).heap.size; simp) hro (by omega) hvz (by simp) (by simp)
        simp only [List.length_cons, List.length_nil, Nat.zero_add, Nat.reduceAdd] at hrun hown
        have hC5 : Below wr.heap.size wr w5 := (below_drew hBo).trans hB5r
        obtain ⟨q6, c6, e6, -, hq6, hvt6⟩ := vals_of_row hown
        cases e6
        have hstD : Small D.S := ⟨by omega, fun o ho => by have := hkd.vals o ho; omega, fun o ho => by have := hkd.str o ho; omega⟩
        have hwb2 : wordsR D.S (D.v :: [v0, v1, v2]) ≤ 9223372036854775807 := by have := HQ.out.2.1; omega
        have hwle : (wordsR D.S (D.v :: [v0, v1, v2]) : Int) ≤ (was : Int) + D.n := by rw [← HQ.out.2.1]; exact hww
        have HW := Words_any cx c5 (hst.below hC5) hstD (fun o ho => (hkd.fit o ho).2.2.1.2) hvt6.1 (by simp)
        simp only [List.cons_append, List.nil_append] at HW
        rw [w64_small hwb2] at HW
        generalize wordsR D.S [D.v, v0, v1, v2] = wx at HW hwb2 hwle
        simp only [List.length_append, List.length_cons, List.length_nil, Nat.zero_add, Nat.reduceAdd] at HW
        have HCK : ∀ W, Below wr.heap.size wr W → Calls Tryz.prog 43 #[.slice px D.S.length cx, .agg #[.int .u8 D.v.k, .int .i64 D.v.n]] W fun e w' => e = .returned (.bool true) ∧ Below W.heap.size W w' := fun W hb => (⟨hst.below hb, by omega, fun o ho => by have := hkd.vals o ho; omega, fun o ho => by have := hkd.str o ho; omega, hkd.fit⟩ : Ask W px D.S).check cx D.v true ⟨fun _ => hck, fun _ => rfl⟩
        have hD2 := below_drew (Below.refl wr.heap.size wr)
        have S0 := FD _ hD2
        have SW := FD _ (Below.refl _ _)
        have SA := FD _ (below_drew hBo)
        have SB := FD _ hBo
        have S5 := FD _ hC5
        have hwr : IntKind.i64.wrap ((was : Int) + D.n) = (was : Int) + D.n := by rw [IntKind.wrap_i64]; omega
        have hng : ¬ ((was : Int) + D.n < (wx : Int)) := by omega
        have hngd : decide ((was : Int) + D.n < (wx : Int)) = false := by simpa using hng
        have HFIN : Hid _ := And.intro hC5 hBr
        clear hww hck hn0 hn1 hstD hown hvt6 hB5r hro hvz hno hls hlen hst hkd ht hwb2 hwle
        go_wp2_with fail
        go_region_held3 (fun W => W.cell? ⟨lb, i * 5, none⟩ = some (.slice px D.S.length cx) ∧ W.cell? ⟨lb, i * 5 + 1, none⟩ = some (.int .u8 D.v.k) ∧ W.cell? ⟨lb, i * 5 + 2, none⟩ = some (.int .i64 D.v.n) ∧ W.cell? ⟨lb, i * 5 + 3, none⟩ = some (.string D.t) ∧ W.cell? ⟨lb, i * 5 + 4, none⟩ = some (.int .i64 D.n)) (first | with_reducible exact S0 | with_reducible exact SW | with_reducible exact SA | with_reducible exact SB | with_reducible exact S5 | with_reducible exact S6 | with_reducible exact S7 | go_keep)
          (first
            | (refine step_append_run (by rfl) _ _ _ (by rfl) _ _ (.slice (some ⟨g5, 0, none⟩) 4 c5) w5 (by rfl) (by rfl) hrun ?_)
            | (go_at_call 43; (with_reducible refine hck1.mono ?_); clear hck1; rintro e u2 ⟨rfl, hX2⟩; have hC7 := hC6.trans (hX2.mono hC6.size); have S7 := FD _ hC7)
            | (go_at_call 44; (with_reducible refine HW.mono ?_); clear HW; rintro e u1 ⟨rfl, hX1⟩; have hC6 := hC5.trans (hX1.mono hC5.size); have S6 := FD _ hC6; have hck1 := HCK u1 hC6))
        all_goals
          go_wp2
          go_roundw
          case rel => exact ⟨i + 1, by simp, by omega, hBr.trans (hC7.mono hszr)⟩
          case measure => simp [intOf]; omega
    · have hin' : ¬ ((i : Int) < 6) := by omega
      go_wp2_with (first
        | (go_at_call 9; (with_reducible refine (HL _).mono ?_); rintro e w9 ⟨rfl, hX⟩))
      go_ret
      exact ⟨rfl, hBz.trans ((hBr.trans (hX.mono hszr)).mono hBz.size)⟩

end Go.Proofs.YtgokofomoachaaaGreatDoor
