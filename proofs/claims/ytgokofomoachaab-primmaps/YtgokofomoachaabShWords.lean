/- show's Words. -/
import Derived.Test.YtgokofomoachaabShMath
namespace Go.Proofs.Ytgokofomoachaab
set_option linter.unusedVariables false
set_option linter.unusedSimpArgs false
open Go.RowKit

variable {w : World}

/-- A row without its last. -/
theorem row_less {w : World} {base g c n : Nat} {xs ys : List Value} (h : w.ownsRow base 2 1 (.slice (some ⟨g, 0, none⟩) (n + 1) c) (n + 1) (xs ++ ys)) (hx : xs.length = n) : w.ownsRow base 2 1 (.slice (some ⟨g, 0, none⟩) n c) n xs := by
  refine ⟨by simpa using hx, ?_⟩
  rcases h.2 with ⟨h1, _⟩ | ⟨g', cap, cur, h1, hb, hg, hnc, hcm, hcs, htake⟩
  · simp at h1
  · simp only [Value.slice.injEq, Option.some.injEq, Addr.mk.injEq, and_true, true_and] at h1
    obtain ⟨rfl, rfl⟩ := h1
    refine .inr ⟨_, _, cur, rfl, hb, hg, by omega, hcm, hcs, ?_⟩
    have e2 : (xs ++ ys).take n = xs := by rw [← hx]; simp
    have e := congrArg (List.take n) htake
    rw [e2] at e
    rw [← e, List.take_take]
    congr 1
    omega

/-- The last one that is to be gone to is taken off. -/
theorem IsTo.popped {n₀ bt bM K g c : Nat} {vs : Value} {cnt : Int → Nat} {a : List Int} {x : Int} (h : IsTo n₀ bt bM vs (.slice (some ⟨g, 0, none⟩) (a.length + 1) c) K ⟨cnt, a ++ [x]⟩ w) :
    IsTo n₀ bt bM vs (.slice (some ⟨g, 0, none⟩) a.length c) K ⟨cnt, a⟩ (w.setCell ⟨bt, 2, none⟩ (.slice (some ⟨g, 0, none⟩) a.length c)) ∧ TStep bt bM (.slice (some ⟨g, 0, none⟩) (a.length + 1) c) w (.slice (some ⟨g, 0, none⟩) a.length c) (w.setCell ⟨bt, 2, none⟩ (.slice (some ⟨g, 0, none⟩) a.length c)) := by
  have hr := h.todo
  simp only [List.map_append, List.length_append, List.length_cons, List.length_nil, Nat.zero_add] at hr
  have hr' := row_less hr (by simp)
  have hg : bt ≠ g := by
    rintro rfl
    obtain ⟨cur, hc⟩ := row_obj h.todo (k := bt) rfl
    rw [h.blk] at hc
    cases hc
  refine ⟨⟨h.base, h.baseM, ?_, h.cnt.kept ?_, ?_, by have := h.len; simp at this ⊢; omega⟩, ⟨rfl, rfl, rfl, ?_, ?_, ?_⟩⟩
  · have := heap_setCell_same w bt 2 _ _ (.slice (some ⟨g, 0, none⟩) a.length c) h.blk
    simpa using this
  · rw [heap_setCell_other _ ⟨bt, 2, none⟩ bM _ (Ne.symm h.ne)]
  · exact row_kept hr' (fun k e => heap_setCell_other _ ⟨bt, 2, none⟩ k _ (by simp [Value.ownBlock] at e; subst e; exact Ne.symm hg))
  · simp [World.setCell]
  · intro k hk h1 h2 h3
    exact heap_setCell_other _ ⟨bt, 2, none⟩ k _ h1
  · intro k e; exact .inl e

/-- What is asked of a store's sizes. -/
structure Fair (S : List Om) : Prop where
  len : S.length ≤ 1048576
  vals : ∀ o ∈ S, o.l.length ≤ 100000
  str : ∀ o ∈ S, o.s.size ≤ 1048576
  room : ∀ o ∈ S, o.room ≤ 1099511627776

theorem objAt_mem {S : List Om} {x : Int} {o : Om} (h : objAt S x = some o) : o ∈ S ∧ ∃ i : Nat, x = (i : Int) + 1 ∧ i < S.length ∧ S[i]? = some o := by
  unfold objAt at h
  split at h
  · exact ⟨List.mem_of_getElem? h, (x - 1).toNat, by omega, (List.getElem?_eq_some_iff.1 h).1, h⟩
  · cases h

theorem wordsO_le {S : List Om} (hf : Fair S) {o : Om} (ho : o ∈ S) : wordsO o ≤ 2199023255556 := by
  have h1 := hf.vals o ho; have h2 := hf.str o ho; have h3 := hf.room o ho
  unfold wordsO
  split
  · omega
  · split
    · omega
    · split <;> omega

theorem sumAt_le {S : List Om} (hf : Fair S) (done : List Int) : sumAt S done ≤ 2305843013508661248 := by
  have := sumIf_le (f := fun y => decide (y ∈ done)) (b := 1) (l := S.map wordsO) (m := 2199023255556) (by
    intro a ha
    obtain ⟨o, ho, rfl⟩ := List.mem_map.1 ha
    exact wordsO_le hf ho)
  unfold sumAt
  have h2 := hf.len
  rw [List.length_map] at this
  have : S.length * 2199023255556 ≤ 1048576 * 2199023255556 := Nat.mul_le_mul_right _ h2
  omega

set_option maxRecDepth 20000 in
set_option maxHeartbeats 2000000 in
/-- What is done at an object. -/
theorem visitW_in {w0 : World} {bt bM bn bp K c qc : Nat} {vt : Value} {t : Tr} {p q : Option Addr} {S : List Om} {o : Om} {n : Nat} (hs : IsSt w0 p S) (hl : S.length ≤ maxLen) (hv : Vals w0 q o.l) (hB : Below w0.heap.size w0 w) (ht : IsTo w0.heap.size bt bM (.slice p S.length c) vt K t w) (hK : K + o.l.length ≤ 1099511627776)
    (h1 : o.s.size ≤ 1048576) (h2 : o.l.length ≤ 1048576) (h3 : o.room ≤ 1099511627776) (hn : n + wordsO o ≤ 9223372036854775807)
    (hbase : w0.heap.size ≤ bn) (hbn : w.heap[bn]? = some (.cells #[.int .i64 n] 3 (0, 0))) (hbp : w.heap[bp]? = some (.cells #[.pointer (some ⟨bt, 0, none⟩)] 99 (0, 0))) :
    Calls Try.prog 79 #[objV o q qc, .pointer (some ⟨bn, 0, none⟩), .pointer (some ⟨bp, 0, none⟩)] w fun e w' => e = .returned (.bool true) ∧ ∃ vt', IsTo w0.heap.size bt bM (.slice p S.length c) vt' (K + o.l.length) (meetL S t o.l) w' ∧
      w'.heap[bn]? = some (.cells #[.int .i64 (n + wordsO o : Nat)] 3 (0, 0)) ∧ w'.heap[bp]? = some (.cells #[.pointer (some ⟨bt, 0, none⟩)] 99 (0, 0)) ∧ Below w0.heap.size w w' := by
  have hW := words_in o q qc (w.alloc (.cells #[.int .u8 o.k, .string o.s, .slice q o.l.length qc, .int .i64 o.room, .int .i64 o.fn] 46)).drew h1 h2 h3
  unfold objV at hW ⊢
  have hob := heap_alloc_new w (.cells #[.int .u8 o.k, .string o.s, .slice q o.l.length qc, .int .i64 o.room, .int .i64 o.fn] 46)
  have hbn1 := (Below.heap_alloc w (.cells #[.int .u8 o.k, .string o.s, .slice q o.l.length qc, .int .i64 o.room, .int .i64 o.fn] 46) bn (Array.getElem?_eq_some_iff.1 hbn).1).trans hbn
  have hbp1 := (Below.heap_alloc w (.cells #[.int .u8 o.k, .string o.s, .slice q o.l.length qc, .int .i64 o.room, .int .i64 o.fn] 46) bp (Array.getElem?_eq_some_iff.1 hbp).1).trans hbp
  have ht1 := ht.below (below1 w (.cells #[.int .u8 o.k, .string o.s, .slice q o.l.length qc, .int .i64 o.room, .int .i64 o.fn] 46))
  have hB1 := hB.trans ((below1 w (.cells #[.int .u8 o.k, .string o.s, .slice q o.l.length qc, .int .i64 o.room, .int .i64 o.fn] 46)).mono hB.size)
  have hbo : (w.alloc (.cells #[.int .u8 o.k, .string o.s, .slice q o.l.length qc, .int .i64 o.room, .int .i64 o.fn] 46)).heap.size = w.heap.size + 1 := by simp
  have hnl := (Array.getElem?_eq_some_iff.1 hbn).1
  have hpl := (Array.getElem?_eq_some_iff.1 hbp).1
  generalize hWA : w.alloc (.cells #[.int .u8 o.k, .string o.s, .slice q o.l.length qc, .int .i64 o.room, .int .i64 o.fn] 46) = WA at *
  obtain ⟨c1, f1⟩ := cell_row1 hbn1
  obtain ⟨⟨o0, o1, o2, o3, o4⟩, -⟩ := cell_row5 hob
  have hwr : IntKind.i64.wrap ((n : Int) + (wordsO o : Nat)) = ((n + wordsO o : Nat) : Int) := by rw [IntKind.wrap_i64]; omega
  go_enter Try.func79, Try.ntmps79
  go_wp2
  go_region_with
    ((go_at_call 80; refine hW.mono ?_; rintro e w1 ⟨hBw, rfl⟩; have hbn2 := (hBw.block _ (Array.getElem?_eq_some_iff.1 hbn1).1).trans hbn1; obtain ⟨d1, g1⟩ := cell_row1 hbn2))
  all_goals
    have hBw' : Below WA.heap.size WA w1 := (below_drew (Below.refl _ WA)).trans hBw
    have hne1 : bn ≠ w.heap.size := by omega
    have hob2 := (hBw.block _ (Array.getElem?_eq_some_iff.1 hob).1).trans hob
    have hbp2 := (hBw.block _ (Array.getElem?_eq_some_iff.1 hbp1).1).trans hbp1
    have hpn : bp ≠ bn := by rintro rfl; rw [hbn] at hbp; cases hbp
    have hbt : bt ≠ bn := by rintro rfl; rw [ht.blk] at hbn; cases hbn
    have hMn : bM ≠ bn := fun e => ht.cnt.other hbn e.symm
    have hvn : vt.ownBlock ≠ some bn := fun e => by
      obtain ⟨cur, hc⟩ := row_obj ht.todo e
      rw [hbn] at hc
      cases hc
    have hbt2 : bt ≠ bp := by rintro rfl; rw [ht.blk] at hbp; cases hbp
    have hMp : bM ≠ bp := fun e => ht.cnt.other hbp e.symm
    have hvp : vt.ownBlock ≠ some bp := fun e => by
      obtain ⟨cur, hc⟩ := row_obj ht.todo e
      rw [hbp] at hc
      cases hc
    have ht2 := (ht1.below hBw').kept (w' := w1.setCell ⟨bn, 0, none⟩ (.int .i64 ((n : Int) + (wordsO o : Nat)))) (fun k hk => heap_setCell_other _ ⟨bn, 0, none⟩ k _ (by
      rintro rfl
      rcases hk with e | e | e
      · exact hbt e.symm
      · exact hMn e.symm
      · exact hvn e))
    have hob3 := (heap_setCell_other w1 ⟨bn, 0, none⟩ w.heap.size (.int .i64 ((n : Int) + (wordsO o : Nat))) (Ne.symm hne1)).trans hob2
    have hbp3 := (heap_setCell_other w1 ⟨bn, 0, none⟩ bp (.int .i64 ((n : Int) + (wordsO o : Nat))) hpn).trans hbp2
    have hbn3 : (w1.setCell ⟨bn, 0, none⟩ (.int .i64 ((n : Int) + (wordsO o : Nat)))).heap[bn]? = some (.cells #[.int .i64 ((n : Int) + (wordsO o : Nat))] 3 (0, 0)) := by
      have := heap_setCell_same w1 bn 0 _ _ (.int .i64 ((n : Int) + (wordsO o : Nat))) hbn2
      simpa using this
    have hsz0 : w0.heap.size ≤ w.heap.size := hB.size
    have hB3 : w0.heap.size ≤ bn → Below w0.heap.size WA (w1.setCell ⟨bn, 0, none⟩ (.int .i64 ((n : Int) + (wordsO o : Nat)))) := fun h0 => below_set (hBw'.mono hB1.size) h0 _
    have hB4 : Below w0.heap.size w0 (w1.setCell ⟨bn, 0, none⟩ (.int .i64 ((n : Int) + (wordsO o : Nat)))) := hB1.trans (hB3 hbase)
    have hBA : Below w0.heap.size w WA := by rw [← hWA]; exact (below1 w (.cells #[.int .u8 o.k, .string o.s, .slice q o.l.length qc, .int .i64 o.room, .int .i64 o.fn] 46)).mono hsz0
    have hsz3 : w.heap.size < (w1.setCell ⟨bn, 0, none⟩ (.int .i64 ((n : Int) + (wordsO o : Nat)))).heap.size := (Array.getElem?_eq_some_iff.1 hob3).1
    generalize w1.setCell ⟨bn, 0, none⟩ (.int .i64 ((n : Int) + (wordsO o : Nat))) = W2 at *
    have hM := meet_in (cq := qc) hs hl hv hB4 ht2 hK
    obtain ⟨p0, -⟩ := cell_row1 hbp3
    obtain ⟨⟨o0', o1', o2', o3', o4'⟩, -⟩ := cell_row5 hob3
    clear hW hob hbn1 hbp1 ht1 hBw hbn2 d1 g1 c1 f1 o0 o1 o2 o3 o4 hob2 hbp2 hBw' hWA
    go_wp2_with (first
      | (go_at_call 75; refine hM.mono ?_; clear hM; rintro e w3 ⟨rfl, vt', hto', hS'⟩))
    go_ret
    refine ⟨rfl, vt', hto', ?_, ?_, hBA.trans ((hB3 hbase).trans (ht2.below0 hS'))⟩
    · rw [hS'.block bn (by omega) (Ne.symm hbt) (Ne.symm hMn) (Ne.symm hvn), hbn3]; simp
    · rw [hS'.block bp (by omega) (Ne.symm hbt2) (Ne.symm hMp) (Ne.symm hvp), hbp3]

end Go.Proofs.Ytgokofomoachaab
