/- show's Words, of any store: what is added wraps. -/
import Derived.Test.YtppjahnahomkeaaDoorShEachW
import Derived.Test.YtppjahnahomkeaaDoorShGreat
namespace Go.Proofs.YtppjahnahomkeaaDoor
set_option linter.unusedVariables false
set_option linter.unusedSimpArgs false
open Go.RowKit

variable {w : World}

/-- A number as it is held. -/
def w64 (n : Nat) : Int := (((n : Int) + 9223372036854775808) % 18446744073709551616) - 9223372036854775808

theorem w64_small {n : Nat} (h : n ≤ 9223372036854775807) : w64 n = n := by unfold w64; omega

theorem w64_add (a b : Nat) : IntKind.i64.wrap (w64 a + w64 b) = w64 (a + b) := by
  rw [IntKind.wrap_i64]
  unfold w64
  omega

set_option maxHeartbeats 1000000 in
theorem words_any (o : Om) (q : Option Addr) (c : Nat) (w : World) (hs : o.s.size ≤ 1048576) (hl : o.l.length ≤ 1048576) (hr : o.room ≤ 9223372036854775807) :
    Calls Tryd.prog 31 #[objV o q c] w fun e w' => Below w.heap.size w w' ∧ e = .returned (.int .i64 (w64 (wordsO o))) := by
  by_cases hroom : o.room ≤ 1099511627776
  · refine (words_in o q c w hs hl hroom).mono ?_
    rintro e w' ⟨h1, rfl⟩
    refine ⟨h1, ?_⟩
    rw [w64_small]
    unfold wordsO
    split
    · omega
    · split
      · omega
      · split <;> omega
  · by_cases h4 : o.k = 4 ∨ o.k = 5
    · have e : wordsO o = 4 + 2 * o.room.toNat := by unfold wordsO; rw [if_neg (by omega), if_neg (by omega), if_pos ⟨h4, by omega⟩]
      have e2 : w64 (wordsO o) = IntKind.i64.wrap (4 + IntKind.i64.wrap (2 * o.room)) := by
        rw [e, IntKind.wrap_i64, IntKind.wrap_i64]
        unfold w64
        omega
      rw [e2]
      unfold objV
      have hr0 : 0 < o.room := by omega
      rcases h4 with h | h
      all_goals
        rw [h]
        clear e e2 h
        go_enter Tryd.func31, Tryd.ntmps31
        go_wp2
        go_ret
        first | exact ⟨below1 _ _, rfl⟩ | (refine ⟨below1 _ _, ?_⟩; simp [IntKind.wrap_i64]; unfold wrap64; rfl)
    · -- the room is not looked at
      by_cases h3 : o.k = 3
      · have e : wordsO o = 2 + (o.s.size + 7) / 8 := by unfold wordsO; rw [if_pos h3]
        have e2 : w64 (wordsO o) = 2 + ((o.s.size : Int) + 7) / 8 := by rw [e, w64_small (by omega)]; omega
        rw [e2]
        unfold objV
        rw [h3]
        clear e e2 h3 h4
        go_enter Tryd.func31, Tryd.ntmps31
        go_wp2
        go_ret
        exact ⟨below1 _ _, rfl⟩
      · by_cases h6 : o.k = 6
        · have e : wordsO o = 2 + 2 * o.l.length := by unfold wordsO; rw [if_neg h3, if_pos h6]
          have e2 : w64 (wordsO o) = 2 + 2 * (o.l.length : Int) := by rw [e, w64_small (by omega)]; omega
          rw [e2]
          unfold objV
          rw [h6]
          clear e e2 h3 h4 h6
          go_enter Tryd.func31, Tryd.ntmps31
          go_wp2
          go_ret
          exact ⟨below1 _ _, rfl⟩
        · have e : wordsO o = 3 := by unfold wordsO; rw [if_neg h3, if_neg h6, if_neg (by omega)]
          have e2 : w64 (wordsO o) = 3 := by rw [e]; rfl
          have b3 : ¬ ((o.k : Int) = 3) := by omega
          have b4 : ¬ ((o.k : Int) = 4) := by omega
          have b5 : ¬ ((o.k : Int) = 5) := by omega
          have b6 : ¬ ((o.k : Int) = 6) := by omega
          rw [e2]
          unfold objV
          clear e e2 h3 h4 h6
          go_enter Tryd.func31, Tryd.ntmps31
          go_wp2
          go_ret
          exact ⟨below1 _ _, rfl⟩

set_option maxRecDepth 20000 in
set_option maxHeartbeats 2000000 in
/-- What is done at an object. -/
theorem visitV_in {w0 : World} {bt bM bn bp K c qc : Nat} {vt : Value} {t : Tr} {p q : Option Addr} {S : List Om} {o : Om} {n : Nat} (hs : IsSt w0 p S) (hl : S.length ≤ maxLen) (hv : Vals w0 q o.l) (hB : Below w0.heap.size w0 w) (ht : IsTo w0.heap.size bt bM (.slice p S.length c) vt K t w) (hK : K + o.l.length ≤ 1099511627776)
    (h1 : o.s.size ≤ 1048576) (h2 : o.l.length ≤ 1048576) (h3 : o.room ≤ 9223372036854775807)
    (hbase : w0.heap.size ≤ bn) (hbn : w.heap[bn]? = some (.cells #[.int .i64 (w64 n)] 3 (0, 0))) (hbp : w.heap[bp]? = some (.cells #[.pointer (some ⟨bt, 0, none⟩)] 59 (0, 0))) :
    Calls Tryd.prog 30 #[objV o q qc, .pointer (some ⟨bn, 0, none⟩), .pointer (some ⟨bp, 0, none⟩)] w fun e w' => e = .returned (.bool true) ∧ ∃ vt', IsTo w0.heap.size bt bM (.slice p S.length c) vt' (K + o.l.length) (meetL S t o.l) w' ∧
      w'.heap[bn]? = some (.cells #[.int .i64 (w64 (n + wordsO o))] 3 (0, 0)) ∧ w'.heap[bp]? = some (.cells #[.pointer (some ⟨bt, 0, none⟩)] 59 (0, 0)) ∧ Below w0.heap.size w w' := by
  have hW := words_any o q qc (w.alloc (.cells #[.int .u8 o.k, .string o.s, .slice q o.l.length qc, .int .i64 o.room, .int .i64 o.fn] 39)).drew h1 h2 h3
  unfold objV at hW ⊢
  have hob := heap_alloc_new w (.cells #[.int .u8 o.k, .string o.s, .slice q o.l.length qc, .int .i64 o.room, .int .i64 o.fn] 39)
  have hbn1 := (Below.heap_alloc w (.cells #[.int .u8 o.k, .string o.s, .slice q o.l.length qc, .int .i64 o.room, .int .i64 o.fn] 39) bn (Array.getElem?_eq_some_iff.1 hbn).1).trans hbn
  have hbp1 := (Below.heap_alloc w (.cells #[.int .u8 o.k, .string o.s, .slice q o.l.length qc, .int .i64 o.room, .int .i64 o.fn] 39) bp (Array.getElem?_eq_some_iff.1 hbp).1).trans hbp
  have ht1 := ht.below (below1 w (.cells #[.int .u8 o.k, .string o.s, .slice q o.l.length qc, .int .i64 o.room, .int .i64 o.fn] 39))
  have hB1 := hB.trans ((below1 w (.cells #[.int .u8 o.k, .string o.s, .slice q o.l.length qc, .int .i64 o.room, .int .i64 o.fn] 39)).mono hB.size)
  have hbo : (w.alloc (.cells #[.int .u8 o.k, .string o.s, .slice q o.l.length qc, .int .i64 o.room, .int .i64 o.fn] 39)).heap.size = w.heap.size + 1 := by simp
  have hnl := (Array.getElem?_eq_some_iff.1 hbn).1
  have hpl := (Array.getElem?_eq_some_iff.1 hbp).1
  generalize hWA : w.alloc (.cells #[.int .u8 o.k, .string o.s, .slice q o.l.length qc, .int .i64 o.room, .int .i64 o.fn] 39) = WA at *
  obtain ⟨c1, f1⟩ := cell_row1 hbn1
  obtain ⟨⟨o0, o1, o2, o3, o4⟩, -⟩ := cell_row5 hob
  have hwr := w64_add n (wordsO o)
  go_enter Tryd.func30, Tryd.ntmps30
  go_wp2
  go_region_with
    ((go_at_call 31; refine hW.mono ?_; rintro e w1 ⟨hBw, rfl⟩; have hbn2 := (hBw.block _ (Array.getElem?_eq_some_iff.1 hbn1).1).trans hbn1; obtain ⟨d1, g1⟩ := cell_row1 hbn2))
  all_goals
    have hBw' : Below WA.heap.size WA w1 := (below_drew (Below.refl _ WA)).trans hBw
    have hne1 : bn ≠ w.heap.size := by omega
    have hob2 := (hBw.block _ (Array.getElem?_eq_some_iff.1 hob).1).trans hob
    have hbp2 := (hBw.block _ (Array.getElem?_eq_some_iff.1 hbp1).1).trans hbp1
    have hpn : bp ≠ bn := by rintro rfl; rw [hbn] at hbp; cases hbp
    have hbt : bt ≠ bn := by rintro rfl; rw [ht.blk] at hbn; cases hbn
    have hMn : bM ≠ bn := fun e => ht.cnt.other hbn e.symm
    have hvn : vt.ownBlock ≠ some bn := fun e => by
      obtain ⟨cur, hc⟩ := row_obj ht.todo e
      rw [hbn] at hc
      cases hc
    have hbt2 : bt ≠ bp := by rintro rfl; rw [ht.blk] at hbp; cases hbp
    have hMp : bM ≠ bp := fun e => ht.cnt.other hbp e.symm
    have hvp : vt.ownBlock ≠ some bp := fun e => by
      obtain ⟨cur, hc⟩ := row_obj ht.todo e
      rw [hbp] at hc
      cases hc
    have ht2 := (ht1.below hBw').kept (w' := w1.setCell ⟨bn, 0, none⟩ (.int .i64 (w64 (n + wordsO o)))) (fun k hk => heap_setCell_other _ ⟨bn, 0, none⟩ k _ (by
      rintro rfl
      rcases hk with e | e | e
      · exact hbt e.symm
      · exact hMn e.symm
      · exact hvn e))
    have hob3 := (heap_setCell_other w1 ⟨bn, 0, none⟩ w.heap.size (.int .i64 (w64 (n + wordsO o))) (Ne.symm hne1)).trans hob2
    have hbp3 := (heap_setCell_other w1 ⟨bn, 0, none⟩ bp (.int .i64 (w64 (n + wordsO o))) hpn).trans hbp2
    have hbn3 : (w1.setCell ⟨bn, 0, none⟩ (.int .i64 (w64 (n + wordsO o)))).heap[bn]? = some (.cells #[.int .i64 (w64 (n + wordsO o))] 3 (0, 0)) := by
      have := heap_setCell_same w1 bn 0 _ _ (.int .i64 (w64 (n + wordsO o))) hbn2
      simpa using this
    have hsz0 : w0.heap.size ≤ w.heap.size := hB.size
    have hB3 : w0.heap.size ≤ bn → Below w0.heap.size WA (w1.setCell ⟨bn, 0, none⟩ (.int .i64 (w64 (n + wordsO o)))) := fun h0 => below_set (hBw'.mono hB1.size) h0 _
    have hB4 : Below w0.heap.size w0 (w1.setCell ⟨bn, 0, none⟩ (.int .i64 (w64 (n + wordsO o)))) := hB1.trans (hB3 hbase)
    have hBA : Below w0.heap.size w WA := by rw [← hWA]; exact (below1 w (.cells #[.int .u8 o.k, .string o.s, .slice q o.l.length qc, .int .i64 o.room, .int .i64 o.fn] 39)).mono hsz0
    have hsz3 : w.heap.size < (w1.setCell ⟨bn, 0, none⟩ (.int .i64 (w64 (n + wordsO o)))).heap.size := (Array.getElem?_eq_some_iff.1 hob3).1
    generalize w1.setCell ⟨bn, 0, none⟩ (.int .i64 (w64 (n + wordsO o))) = W2 at *
    have hM := meet_in (cq := qc) hs hl hv hB4 ht2 hK
    obtain ⟨p0, -⟩ := cell_row1 hbp3
    obtain ⟨⟨o0', o1', o2', o3', o4'⟩, -⟩ := cell_row5 hob3
    clear hW hob hbn1 hbp1 ht1 hBw hbn2 d1 g1 c1 f1 o0 o1 o2 o3 o4 hob2 hbp2 hBw' hWA
    go_wp2_with (first
      | (go_at_call 29; refine hM.mono ?_; clear hM; rintro e w3 ⟨rfl, vt', hto', hS'⟩))
    go_ret
    refine ⟨rfl, vt', hto', ?_, ?_, hBA.trans ((hB3 hbase).trans (ht2.below0 hS'))⟩
    · rw [hS'.block bn (by omega) (Ne.symm hbt) (Ne.symm hMn) (Ne.symm hvn), hbn3]
    · rw [hS'.block bp (by omega) (Ne.symm hbt2) (Ne.symm hMp) (Ne.symm hvp), hbp3]


/-- What stands before a round. -/
def EachV (w0 : World) (bt bM bn bp c : Nat) (p : Option Addr) (S : List Om) (roots : List Vl) (m : Nat) (w : World) : Prop :=
  ∃ (t : Tr) (vt : Value) (done : List Int), IsTo w0.heap.size bt bM (.slice p S.length c) vt (100000 + 100000 * done.length) t w ∧ Way S roots t done ∧ w.heap[bn]? = some (.cells #[.int .i64 (w64 (sumAt S done))] 3 (0, 0)) ∧ w.heap[bp]? = some (.cells #[.pointer (some ⟨bt, 0, none⟩)] 59 (0, 0)) ∧ Below w0.heap.size w0 w ∧ m = S.length - done.length

set_option maxRecDepth 20000 in
set_option maxHeartbeats 2000000 in
theorem eachV_in {w0 : World} {bt bM bn bp c : Nat} {p : Option Addr} {S : List Om} {roots : List Vl} (hs : IsSt w0 p S) (hf : Small S) (hrm : ∀ o ∈ S, o.room ≤ 9223372036854775807) (hbase : w0.heap.size ≤ bn) (h : ∃ m, EachV w0 bt bM bn bp c p S roots m w) :
    Calls Tryd.prog 27 #[.pointer (some ⟨bt, 0, none⟩), .func (.func 30) #[] #[.pointer (some ⟨bn, 0, none⟩), .pointer (some ⟨bp, 0, none⟩)]] w fun e w' => e = .returned (.bool true) ∧ w'.heap[bn]? = some (.cells #[.int .i64 (w64 (wordsR S roots))] 3 (0, 0)) ∧ Below w0.heap.size w0 w' := by
  have hlen := hf.len
  have hSm : S.length ≤ maxLen := Nat.le_trans hlen (by unfold maxLen; decide)
  go_enter Tryd.func27, Tryd.ntmps27
  go_wp2
  go_loopw [5] (fun k wr => ∃ m, EachV w0 bt bM bn bp c p S roots m wr) (fun k wr => least (EachV w0 bt bM bn bp c p S roots) wr)
  case atStart => exact h
  case round =>
    have hl := least_at hrel
    generalize hm : least (EachV w0 bt bM bn bp c p S roots) wr = m at hl
    obtain ⟨t, vt, done, hto, hway, hbn, hbp, hB, rfl⟩ := hl
    cases htd : t.todo with
    | nil =>
      obtain ⟨pv, cv, rfl, -, -, -⟩ := row_form hto.todo
      rw [htd] at hto
      obtain ⟨⟨t0, t1, t2⟩, -⟩ := cell_row3 hto.blk
      have HW : Hid _ := hway
      have HM : Hid _ := hm
      clear hm hway
      simp only [List.length_nil] at t2
      go_wp2
      go_ret
      have hway := HW.out
      obtain ⟨cnt, todo⟩ := t
      simp only at htd
      subst htd
      exact ⟨rfl, by rw [← hway.sum]; exact hbn, hB⟩
    | cons y r =>
      obtain ⟨a, x, hax⟩ := list_snoc t.todo (by rw [htd]; simp)
      obtain ⟨cnt, todo⟩ := t
      simp only at hax htd
      subst hax
      clear htd
      obtain ⟨pv, cv, rfl, hcl, hcm, hpg⟩ := row_form hto.todo
      obtain ⟨g, rfl⟩ := hpg (by simp)
      have hle : (a ++ [x]).length = a.length + 1 := by simp
      simp only [hle] at hto hcl
      have hlenW := hway.len
      obtain ⟨hx1, hx2, o, hobj, hk3, hk7⟩ := (hway.rch x (by simp)).num
      obtain ⟨hoS, i, hxi, hiS, hSi⟩ := objAt_mem hobj
      have hnd : x ∉ done := fun hm => by
        have := hway.nod
        rw [List.nodup_append] at this
        exact this.2.2 x (by simp) x hm rfl
      have hsum := sumAt_cons hnd hobj
      have hdl : (x :: done).length = done.length + 1 := by simp
      have hway2 := hway.step hobj
      have hdone : done.length < S.length := by simp at hlenW; omega
      obtain ⟨hpo, hSo⟩ := hto.popped
      have hcell : wr.cell? ⟨g, a.length, none⟩ = some (.int .i64 x) := row_cell (by have := hto.todo; simp only [hle] at this; exact this) (by simp) (by omega)
      obtain ⟨⟨t0, t1, t2⟩, ff0, ff1, ff2⟩ := cell_row3 hto.blk
      have hBW : Below w0.heap.size w0 (wr.setCell ⟨bt, 2, none⟩ (.slice (some ⟨g, 0, none⟩) a.length cv)) := hB.trans (hto.below0 hSo)
      obtain ⟨b0, off, hp0, s0, s1, ⟨q, cq, s2, hvq, -⟩, s3, s4⟩ := hs.look hBW hSi
      have hbn2 : (wr.setCell ⟨bt, 2, none⟩ (.slice (some ⟨g, 0, none⟩) a.length cv)).heap[bn]? = _ := (heap_setCell_other wr ⟨bt, 2, none⟩ bn _ (by rintro rfl; rw [hto.blk] at hbn; cases hbn)).trans hbn
      have hbp2 : (wr.setCell ⟨bt, 2, none⟩ (.slice (some ⟨g, 0, none⟩) a.length cv)).heap[bp]? = _ := (heap_setCell_other wr ⟨bt, 2, none⟩ bp _ (by rintro rfl; rw [hto.blk] at hbp; cases hbp)).trans hbp
      have hov := hf.vals o hoS
      have hKo : 100000 + 100000 * done.length + o.l.length ≤ 1099511627776 := by omega
      have ha40 : a.length ≤ 100000 + 100000 * 1048576 := by have := hto.len; simp only [hle] at this; omega
      have hV := visitV_in (qc := cq) (w := wr.setCell ⟨bt, 2, none⟩ (.slice (some ⟨g, 0, none⟩) a.length cv)) hs hSm hvq hBW hpo hKo (hf.str o hoS) (by omega) (hrm o hoS) hbase hbn2 hbp2
      unfold objV at hV
      have hpos : (0 : Int) < ((a.length + 1 : Nat) : Int) := by omega
      have hii : (i : Int) < (S.length : Int) := by omega
      have hal : (a.length : Int) < ((a.length + 1 : Nat) : Int) := by omega
      have hac : (a.length : Int) ≤ (cv : Int) := by omega
      have hw2 : IntKind.i64.wrap (x - 1) = i := by
        clear hV hsum hto hpo hSo hway hway2 hlenW hm hBW hbn2 hbp2
        rw [IntKind.wrap_i64]; omega
      have hw1 : wrap64 (a.length : Int) = a.length := by
        clear hV hsum hto hpo hSo hway hway2 hlenW hm hBW hbn2 hbp2
        unfold wrap64; omega
      subst hp0
      have HH : Hid _ := And.intro hsum (And.intro hway2 (And.intro hdl (And.intro hBW hdone)))
      clear hsum hway2 hm hway hxi hSi hobj hle hdl hlenW hs hvq hBW hpo hSo hnd hbn2 hbp2 hdone hx1 hx2 hcl hcm hKo hSm hov
      go_wp2_with (first
        | (go_at_call 30; refine hV.mono ?_; clear hV; rintro e w3 ⟨rfl, vt', hto3, hbn3, hbp3, hB3⟩))
      obtain ⟨hsum, hway2, hdl, hBW, hdone⟩ := HH.out
      have key : EachV w0 bt bM bn bp c (some ⟨b0, off, none⟩) S roots (S.length - (done.length + 1)) w3 := by
        refine ⟨_, vt', x :: done, hto3.more ?_, hway2, ?_, hbp3, hBW.trans hB3, by rw [hdl]⟩
        · rw [hdl]
          have := hf.vals o hoS
          omega
        · rw [hsum, Nat.add_comm]; exact hbn3
      refine ⟨⟨_, key⟩, ?_⟩
      have := least_le key
      omega

set_option maxRecDepth 20000 in
set_option maxHeartbeats 2000000 in
/-- show's Words. -/
theorem Words_any {p q : Option Addr} {S : List Om} {roots : List Vl} (c cq : Nat) (hs : IsSt w p S) (hf : Small S) (hrm : ∀ o ∈ S, o.room ≤ 9223372036854775807) (hv : Vals w q roots) (hr : roots.length ≤ 100000) :
    Calls Tryd.prog 15 #[.slice p S.length c, .slice q roots.length cq] w fun e w' => e = .returned (.int .i64 (w64 (wordsR S roots))) ∧ Below w.heap.size w w' := by
  have hlen := hf.len
  have hSm : S.length ≤ maxLen := Nat.le_trans hlen (by unfold maxLen; decide)
  have H1 := tourOf_in (p := p) (n := S.length) (c := c) w
  have H2 := fun (w1 : World) (vt : Value) (t : Tr) (bt bM : Nat) (hB : Below w.heap.size w w1) ht => meet_in (cq := cq) (vt := vt) (t := t) (K := 0) (bt := bt) (bM := bM) (c := c) (w := w1) hs hSm hv hB ht (by omega)
  go_enter Tryd.func15, Tryd.ntmps15
  go_wp2_with (first
    | (go_at_call 25; refine H1.mono ?_; clear H1; rintro e w1 ⟨bt, bM, rfl, hto, hB1⟩; have hto1 := hto.below (below1 w1 (.cells #[.pointer (some ⟨bt, 0, none⟩)] 59)); have hB1' := hB1.alloc hB1.size (.cells #[.pointer (some ⟨bt, 0, none⟩)] 59); have hbp := heap_alloc_new w1 (.cells #[.pointer (some ⟨bt, 0, none⟩)] 59); obtain ⟨c0, -⟩ := cell_row1 hbp)
    | (go_at_call 29; refine (H2 _ _ _ _ _ hB1' hto1).mono ?_; clear H2; rintro e w2 ⟨rfl, vt', hto2, hS2⟩
       have hbl := hto.lt; have hMl := hto.cnt.lt
       have hbp2 := (hS2.block w1.heap.size (by simp) (by omega) (by omega) (by simp [Value.ownBlock])).trans hbp
       have hB2 : Below w.heap.size w w2 := hB1'.trans (hto1.below0 hS2)
       have hbp3 := (Below.heap_alloc w2 (.cells #[.int .i64 0] 3) _ (Array.getElem?_eq_some_iff.1 hbp2).1).trans hbp2
       have hbn3 := heap_alloc_new w2 (.cells #[.int .i64 0] 3)
       have hto3 := hto2.below (below1 w2 (.cells #[.int .i64 0] 3))
       have hB3 := hB2.alloc hB2.size (.cells #[.int .i64 0] 3)
       have H3 := eachV_in (bp := w1.heap.size) (bn := w2.heap.size) (c := c) (roots := roots) hs hf hrm hB2.size ⟨_, _, vt', [], hto3.more (by simp; omega), Way.start S roots, (by rw [sumAt_nil, w64_small (by omega)]; exact hbn3), hbp3, hB3, rfl⟩
       obtain ⟨p0, -⟩ := cell_row1 hbp3; clear hbp2 hbp3 hbn3 hbp c0)
    | (go_at_call 27; refine H3.mono ?_; clear H3; rintro e w3 ⟨rfl, hbn4, hB4⟩; obtain ⟨n0, -⟩ := cell_row1 hbn4))
  go_ret
  exact ⟨rfl, hB4⟩


end Go.Proofs.YtppjahnahomkeaaDoor
