/- plain: anyCell, putItem, putPair, Put. -/
import Derived.Test.YtgokofomoachaaaGreatDoorPnSets
import Derived.Test.YtgokofomoachaaaGreatDoorPnOps
import Derived.Test.YtgokofomoachaaaGreatDoorPnGet
namespace Go.Proofs.YtgokofomoachaaaGreatDoor
set_option linter.unusedVariables false
set_option linter.unusedSimpArgs false
open Go.RowKit

variable {w : World}

theorem vt_two {W : World} {b : Nat} {u v : Vl} (h : W.heap[b]? = some (.cells #[.int .u8 u.k, .int .i64 u.n, .int .u8 v.k, .int .i64 v.n] 27 (0, 0))) : VT W (some ⟨b, 0, none⟩) [u, v] := ⟨one_vals2 h, fun ad e => by cases e; exact ⟨_, h⟩⟩

/-- A List or a Map with more values. -/
def addedD (i : Nat) (o : Om) (least : Int) (more : List Vl) : Dd :=
  if o.room < (o.l.length : Int) + more.length then addD ((i : Int) + 1) o.l.length more (max least (2 * o.room)) (1 + 2 * max least (2 * o.room)) else addD ((i : Int) + 1) o.l.length more o.room 0

def putItemD (i : Nat) (o : Om) (n : Int) (x : Vl) : Dd :=
  if n < 0 ∨ (o.l.length : Int) < n then thrD tBounds
  else if n < (o.l.length : Int) then setD ((i : Int) + 1) n x o.room
  else if o.l.length = 65536 then thrD tItems
  else addedD i o 4 [x]

def putPairD (i : Nat) (o : Om) (k x : Vl) : Option Nat → Dd
  | some j => setD ((i : Int) + 1) ((j : Int) + 1) x o.room
  | none => if o.l.length = 131072 then thrD tItems else addedD i o 8 [k, x]

theorem addsD {p : Option Addr} {S : List Om} (h : Ask w p S) (c : Nat) (k : Nat) {i : Nat} {o : Om} (ho : leadO S ⟨k, (i : Int) + 1⟩ = some o) (least : Nat) (hle : least ≤ 8) {q2 : Option Addr} {more : List Vl} (hm2 : more.length ≤ 2) (hr0 : 0 ≤ o.room) (hr1 : o.room ≤ 1099511627776) (hv : VT w q2 more) {d : Dd} (hd : d = addedD i o least more) :
    Calls Tryz.prog 259 #[.slice p S.length c, .agg #[.int .u8 k, .int .i64 ((i : Int) + 1)], .int .i64 least, .slice q2 more.length more.length] w (DeedR w d) := by
  subst hd
  unfold addedD
  by_cases hR : o.room < (o.l.length : Int) + more.length
  · rw [if_pos hR]
    refine Calls.mono (adds_pl h c k ho least hle (q2 := q2) hm2 hr0 hr1 _ _ (.inl ⟨hR, rfl, rfl⟩)) ?_
    rintro e w' ⟨rfl, hB⟩
    exact ⟨none, 0, q2, rfl, ⟨VT.none _, fun _ => rfl⟩, hv.below hB, hB⟩
  · rw [if_neg hR]
    refine Calls.mono (adds_pl h c k ho least hle (q2 := q2) hm2 hr0 hr1 _ _ (.inr ⟨by omega, rfl, rfl⟩)) ?_
    rintro e w' ⟨rfl, hB⟩
    exact ⟨none, 0, q2, rfl, ⟨VT.none _, fun _ => rfl⟩, hv.below hB, hB⟩

set_option maxRecDepth 20000 in
set_option maxHeartbeats 2000000 in
theorem anyCell_in {q : Option Addr} {l : List Vl} (cq : Nat) (hv : Vals w q l) (hl : l.length ≤ 1000000) (b : Bool) (hb : b = true ↔ ∃ v ∈ l, v.k = 7) :
    Calls Tryz.prog 174 #[.slice q l.length cq] w fun e w' => e = .returned (.bool b) ∧ Below w.heap.size w w' := by
  go_enter Tryz.func174, Tryz.ntmps174
  go_wp2
  go_loopw [7] (fun k wr => ∃ j : Nat, k = .int .i64 j ∧ j ≤ l.length ∧ Hid (∀ v ∈ l.take j, v.k ≠ 7) ∧ Below w.heap.size w wr) (fun k _ => l.length - (intOf k).toNat)
  case atStart => exact ⟨0, rfl, by omega, (fun v hv => by simp at hv), Below.refl _ _⟩
  case round =>
    obtain ⟨j, rfl, hj, HF, hB⟩ := hrel
    have HB : Hid _ := hb
    clear hb
    have hsz := hB.size
    by_cases hjn : j < l.length
    · have hjn' : (j : Int) < (l.length : Int) := by omega
      obtain ⟨v, hvj⟩ : ∃ v, l[j]? = some v := ⟨l[j], by simp⟩
      obtain ⟨b0, off, rfl, c0, c1⟩ := (hv.below hB) j v hvj
      have HV : Hid _ := hvj
      clear hvj
      have hmem : v ∈ l := List.mem_of_getElem? HV.out
      have hB1 : Below w.heap.size w (wr.alloc (.cells #[.int .u8 v.k, .int .i64 v.n] 27)) := hB.alloc hsz _
      obtain ⟨x0, x1⟩ := cell_row2 (heap_alloc_new wr (.cells #[.int .u8 v.k, .int .i64 v.n] 27))
      by_cases h7 : v.k = 7
      · have hbt : b = true := b_true HB.out ⟨v, hmem, h7⟩
        subst hbt
        obtain ⟨vk, vn⟩ := v
        simp only at h7
        subst h7
        simp only [show ((7 : Nat) : Int) = 7 from rfl] at c0 c1 x0 x1 hB1
        clear HB HF HV hmem
        go_wp2
        go_ret
        exact ⟨rfl, hB1⟩
      · have h7n : ¬ ((v.k : Int) = 7) := by omega
        have HK : Hid _ := h7
        clear h7
        go_wp2
        go_roundw
        case rel =>
          refine ⟨j + 1, by simp, by omega, ?_, hB1⟩
          rw [List.take_add_one, HV.out]
          intro x hx
          simp at hx
          rcases hx with hx | rfl
          · exact HF.out x hx
          · exact HK.out
        case measure => simp [intOf]; omega
    · have hjn' : ¬ ((j : Int) < (l.length : Int)) := by omega
      have hbf : b = false := b_false HB.out (by
        rintro ⟨v, hv, h7⟩
        have := HF.out
        rw [List.take_of_length_le (by omega)] at this
        exact this v hv h7)
      subst hbf
      go_wp2
      go_ret
      exact ⟨rfl, hB⟩

set_option maxRecDepth 20000 in
set_option maxHeartbeats 4000000 in
theorem putItem_pl {p : Option Addr} {S : List Om} (h : Ask w p S) (c : Nat) (k : Nat) {i : Nat} {o : Om} (ho : leadO S ⟨k, (i : Int) + 1⟩ = some o) (hr0 : 0 ≤ o.room) (hr1 : o.room ≤ 1099511627776) (n : Int) (u : Vl) {d : Dd} (hd : d = putItemD i o n u) :
    Calls Tryz.prog 231 #[.slice p S.length c, .agg #[.int .u8 k, .int .i64 ((i : Int) + 1)], .int .i64 n, .agg #[.int .u8 u.k, .int .i64 u.n]] w (DeedR w d) := by
  have hB := below3' w (.cells #[.int .u8 k, .int .i64 ((i : Int) + 1)] 27) (.cells #[.int .u8 u.k, .int .i64 u.n] 27) (.cells #[.string ⟨#[]⟩, .int .i64 0, .int .u8 0, .int .i64 0, .int .u8 0, .string ⟨#[]⟩, .slice none 0 0, .int .i64 0, .int .i64 0, .int .i64 0, .int .i64 0, .slice none 0 0, .int .i64 0] 100)
  have e0 := heap3_0 w (.cells #[.int .u8 k, .int .i64 ((i : Int) + 1)] 27) (.cells #[.int .u8 u.k, .int .i64 u.n] 27) (.cells #[.string ⟨#[]⟩, .int .i64 0, .int .u8 0, .int .i64 0, .int .u8 0, .string ⟨#[]⟩, .slice none 0 0, .int .i64 0, .int .i64 0, .int .i64 0, .int .i64 0, .slice none 0 0, .int .i64 0] 100)
  have e1 := heap3_1 w (.cells #[.int .u8 k, .int .i64 ((i : Int) + 1)] 27) (.cells #[.int .u8 u.k, .int .i64 u.n] 27) (.cells #[.string ⟨#[]⟩, .int .i64 0, .int .u8 0, .int .i64 0, .int .u8 0, .string ⟨#[]⟩, .slice none 0 0, .int .i64 0, .int .i64 0, .int .i64 0, .int .i64 0, .slice none 0 0, .int .i64 0] 100)
  have e2 := heap3_2 w (.cells #[.int .u8 k, .int .i64 ((i : Int) + 1)] 27) (.cells #[.int .u8 u.k, .int .i64 u.n] 27) (.cells #[.string ⟨#[]⟩, .int .i64 0, .int .u8 0, .int .i64 0, .int .u8 0, .string ⟨#[]⟩, .slice none 0 0, .int .i64 0, .int .i64 0, .int .i64 0, .int .i64 0, .slice none 0 0, .int .i64 0] 100)
  obtain ⟨x0, x1⟩ := cell_row2 e0
  have HO := object_in (h.below hB) c ⟨k, (i : Int) + 1⟩ ho
  have HF := fldO2
  have hlo := h.vals o (leadO_mem ho)
  have HD : Hid _ := And.intro hd ho
  clear hd ho
  go_enter Tryz.func231, Tryz.ntmps231
  go_wp2_with (first
    | (go_at_call 175; (with_reducible refine HO.mono ?_); clear HO; rintro e w0 ⟨qo, co, rfl, hvo, -, hB0⟩; refine halt_here ?_))
  unfold Halted
  have hBw := hB.trans (hB0.mono hB.size)
  have f0 := (hB0.block _ (Array.getElem?_eq_some_iff.1 e0).1).trans e0
  have f1 := (hB0.block _ (Array.getElem?_eq_some_iff.1 e1).1).trans e1
  have f2 := (hB0.block _ (Array.getElem?_eq_some_iff.1 e2).1).trans e2
  clear x0 x1 e0 e1 e2
  obtain ⟨x0, x1⟩ := cell_row2 f0
  obtain ⟨y0, y1⟩ := cell_row2 f1
  obtain ⟨hd, ho⟩ := HD.out
  unfold putItemD at hd
  by_cases hbd : n < 0 ∨ (o.l.length : Int) < n
  · rw [if_pos hbd] at hd
    have H1 := throwsD hd w0
    unfold tBounds at H1
    clear hd ho
    by_cases hn0 : n < 0
    · clear hbd
      go_wp2_with (first
        | (go_at_call 154; (with_reducible refine H1.mono ?_); clear H1; rintro e w1 ⟨q, c_, q2, rfl, h1, h2, hB1⟩; have hr := (hB1.block _ (Array.getElem?_eq_some_iff.1 f2).1).trans f2; obtain ⟨⟨z0, z1, z2, z3, z4, z5, z6, z7, z8, z9, z10, z11, z12⟩, t0, t1, t2, t3, t4, t5, t6, t7, t8, t9, t10, t11, t12⟩ := cell_row13 hr))
      refine bodyPost_ret (results_cell_row (by rfl) _ _ (w.heap.size + 1 + 1) 100 _ _ _ (by rfl) (set13_row hr) Tryz.underlying100 (by rfl) infoDeed) (by rfl) ?_
      exact deed_fin hr (by omega) d h1 h2 (hBw.trans (hB1.mono hBw.size))
    · have hn1 : (o.l.length : Int) < n := by omega
      clear hbd
      go_wp2_with (first
        | (go_at_call 154; (with_reducible refine H1.mono ?_); clear H1; rintro e w1 ⟨q, c_, q2, rfl, h1, h2, hB1⟩; have hr := (hB1.block _ (Array.getElem?_eq_some_iff.1 f2).1).trans f2; obtain ⟨⟨z0, z1, z2, z3, z4, z5, z6, z7, z8, z9, z10, z11, z12⟩, t0, t1, t2, t3, t4, t5, t6, t7, t8, t9, t10, t11, t12⟩ := cell_row13 hr))
      refine bodyPost_ret (results_cell_row (by rfl) _ _ (w.heap.size + 1 + 1) 100 _ _ _ (by rfl) (set13_row hr) Tryz.underlying100 (by rfl) infoDeed) (by rfl) ?_
      exact deed_fin hr (by omega) d h1 h2 (hBw.trans (hB1.mono hBw.size))
  · rw [if_neg hbd] at hd
    have hn0 : ¬ (n < 0) := fun e => hbd (.inl e)
    have hn1 : ¬ ((o.l.length : Int) < n) := fun e => hbd (.inr e)
    clear hbd
    by_cases hlt : n < (o.l.length : Int)
    · rw [if_pos hlt] at hd
      have H1 := sets_pl (h.below hBw) c k ho n u hd
      clear hd ho
      go_wp2_with (first
        | (go_at_call 258; (with_reducible refine H1.mono ?_); clear H1; rintro e w1 ⟨q, c_, q2, rfl, h1, h2, hB1⟩; have hr := (hB1.block _ (Array.getElem?_eq_some_iff.1 f2).1).trans f2; obtain ⟨⟨z0, z1, z2, z3, z4, z5, z6, z7, z8, z9, z10, z11, z12⟩, t0, t1, t2, t3, t4, t5, t6, t7, t8, t9, t10, t11, t12⟩ := cell_row13 hr))
      refine bodyPost_ret (results_cell_row (by rfl) _ _ (w.heap.size + 1 + 1) 100 _ _ _ (by rfl) (set13_row hr) Tryz.underlying100 (by rfl) infoDeed) (by rfl) ?_
      exact deed_fin hr (by omega) d h1 h2 (hBw.trans (hB1.mono hBw.size))
    · rw [if_neg hlt] at hd
      by_cases h6 : o.l.length = 65536
      · rw [if_pos h6] at hd
        have H1 := throwsD hd w0
        unfold tItems at H1
        have h6' : ((o.l.length : Int) == 65536) = true := by simp; omega
        have h6n : (o.l.length : Int) = 65536 := by omega
        have hnn : n = 65536 := by omega
        subst hnn
        clear hd ho hlt hn0 hn1 h6
        go_wp2_with (first
          | (go_at_call 154; (with_reducible refine H1.mono ?_); clear H1; rintro e w1 ⟨q, c_, q2, rfl, h1, h2, hB1⟩; have hr := (hB1.block _ (Array.getElem?_eq_some_iff.1 f2).1).trans f2; obtain ⟨⟨z0, z1, z2, z3, z4, z5, z6, z7, z8, z9, z10, z11, z12⟩, t0, t1, t2, t3, t4, t5, t6, t7, t8, t9, t10, t11, t12⟩ := cell_row13 hr))
        refine bodyPost_ret (results_cell_row (by rfl) _ _ (w.heap.size + 1 + 1) 100 _ _ _ (by rfl) (set13_row hr) Tryz.underlying100 (by rfl) infoDeed) (by rfl) ?_
        exact deed_fin hr (by omega) d h1 h2 (hBw.trans (hB1.mono hBw.size))
      · rw [if_neg h6] at hd
        have h6' : ¬ ((o.l.length : Int) = 65536) := by omega
        have hBU := below1 w0 (.cells #[.int .u8 u.k, .int .i64 u.n] 27)
        have hBw2 := hBw.trans (hBU.mono hBw.size)
        have H1 := addsD (h.below hBw2) c k ho 4 (by decide) (more := [u]) (by simp) hr0 hr1 (vt_one (heap_alloc_new w0 (.cells #[.int .u8 u.k, .int .i64 u.n] 27))) hd
        have f2' := (hBU.block _ (Array.getElem?_eq_some_iff.1 f2).1).trans f2
        simp only [List.length_cons, List.length_nil, show ((4 : Nat) : Int) = 4 from rfl] at H1
        clear hd ho h6
        go_wp2_with (first
          | (go_at_call 259; (with_reducible refine H1.mono ?_); clear H1; rintro e w1 ⟨q, c_, q2, rfl, h1, h2, hB1⟩; have hr := (hB1.block _ (Array.getElem?_eq_some_iff.1 f2').1).trans f2'; obtain ⟨⟨z0, z1, z2, z3, z4, z5, z6, z7, z8, z9, z10, z11, z12⟩, t0, t1, t2, t3, t4, t5, t6, t7, t8, t9, t10, t11, t12⟩ := cell_row13 hr))
        refine bodyPost_ret (results_cell_row (by rfl) _ _ (w.heap.size + 1 + 1) 100 _ _ _ (by rfl) (set13_row hr) Tryz.underlying100 (by rfl) infoDeed) (by rfl) ?_
        exact deed_fin hr (by omega) d h1 h2 (hBw2.trans (hB1.mono hBw2.size))

set_option maxRecDepth 20000 in
set_option maxHeartbeats 4000000 in
theorem putPair_pl {p : Option Addr} {S : List Om} (h : Ask w p S) (c : Nat) (k : Nat) {i : Nat} {o : Om} (ho : leadO S ⟨k, (i : Int) + 1⟩ = some o) (hr0 : 0 ≤ o.room) (hr1 : o.room ≤ 1099511627776) (hobj : TextOk S o.l) (kk u : Vl) (hkt : kk.k = 3 → leadO S kk ≠ none) (r : Option Nat) (hka : KeyAt S o.l kk r) {d : Dd} (hd : d = putPairD i o kk u r) :
    Calls Tryz.prog 230 #[.slice p S.length c, .agg #[.int .u8 k, .int .i64 ((i : Int) + 1)], .agg #[.int .u8 kk.k, .int .i64 kk.n], .agg #[.int .u8 u.k, .int .i64 u.n]] w (DeedR w d) := by
  have hB := below4' w (.cells #[.int .u8 k, .int .i64 ((i : Int) + 1)] 27) (.cells #[.int .u8 kk.k, .int .i64 kk.n] 27) (.cells #[.int .u8 u.k, .int .i64 u.n] 27) (.cells #[.string ⟨#[]⟩, .int .i64 0, .int .u8 0, .int .i64 0, .int .u8 0, .string ⟨#[]⟩, .slice none 0 0, .int .i64 0, .int .i64 0, .int .i64 0, .int .i64 0, .slice none 0 0, .int .i64 0] 100)
  have e0 := heap4_0 w (.cells #[.int .u8 k, .int .i64 ((i : Int) + 1)] 27) (.cells #[.int .u8 kk.k, .int .i64 kk.n] 27) (.cells #[.int .u8 u.k, .int .i64 u.n] 27) (.cells #[.string ⟨#[]⟩, .int .i64 0, .int .u8 0, .int .i64 0, .int .u8 0, .string ⟨#[]⟩, .slice none 0 0, .int .i64 0, .int .i64 0, .int .i64 0, .int .i64 0, .slice none 0 0, .int .i64 0] 100)
  have e1 := heap4_1 w (.cells #[.int .u8 k, .int .i64 ((i : Int) + 1)] 27) (.cells #[.int .u8 kk.k, .int .i64 kk.n] 27) (.cells #[.int .u8 u.k, .int .i64 u.n] 27) (.cells #[.string ⟨#[]⟩, .int .i64 0, .int .u8 0, .int .i64 0, .int .u8 0, .string ⟨#[]⟩, .slice none 0 0, .int .i64 0, .int .i64 0, .int .i64 0, .int .i64 0, .slice none 0 0, .int .i64 0] 100)
  have e2 := heap4_2 w (.cells #[.int .u8 k, .int .i64 ((i : Int) + 1)] 27) (.cells #[.int .u8 kk.k, .int .i64 kk.n] 27) (.cells #[.int .u8 u.k, .int .i64 u.n] 27) (.cells #[.string ⟨#[]⟩, .int .i64 0, .int .u8 0, .int .i64 0, .int .u8 0, .string ⟨#[]⟩, .slice none 0 0, .int .i64 0, .int .i64 0, .int .i64 0, .int .i64 0, .slice none 0 0, .int .i64 0] 100)
  have e3 := heap4_3 w (.cells #[.int .u8 k, .int .i64 ((i : Int) + 1)] 27) (.cells #[.int .u8 kk.k, .int .i64 kk.n] 27) (.cells #[.int .u8 u.k, .int .i64 u.n] 27) (.cells #[.string ⟨#[]⟩, .int .i64 0, .int .u8 0, .int .i64 0, .int .u8 0, .string ⟨#[]⟩, .slice none 0 0, .int .i64 0, .int .i64 0, .int .i64 0, .int .i64 0, .slice none 0 0, .int .i64 0] 100)
  obtain ⟨x0, x1⟩ := cell_row2 e0
  have HO := object_in (h.below hB) c ⟨k, (i : Int) + 1⟩ ho
  have HF := fldO2
  have hlo := h.vals o (leadO_mem ho)
  have HD : Hid _ := And.intro hd (And.intro ho hka)
  clear hd ho hka
  go_enter Tryz.func230, Tryz.ntmps230
  go_wp2_with (first
    | (go_at_call 175; (with_reducible refine HO.mono ?_); clear HO; rintro e w0 ⟨qo, co, rfl, hvo, -, hB0⟩; refine halt_here ?_))
  unfold Halted
  have hBw := hB.trans (hB0.mono hB.size)
  have HK := keyAt_in (h.below hBw) c co (hvo.below hB0) (by omega) hobj kk hkt r HD.out.2.2
  have f0 := (hB0.block _ (Array.getElem?_eq_some_iff.1 e0).1).trans e0
  have f1 := (hB0.block _ (Array.getElem?_eq_some_iff.1 e1).1).trans e1
  have f2 := (hB0.block _ (Array.getElem?_eq_some_iff.1 e2).1).trans e2
  have f3 := (hB0.block _ (Array.getElem?_eq_some_iff.1 e3).1).trans e3
  clear x0 x1 e0 e1 e2 e3
  obtain ⟨x0, x1⟩ := cell_row2 f1
  go_wp2_with (first
    | (go_at_call 257; (with_reducible refine HK.mono ?_); clear HK; rintro e w9 ⟨rfl, hB9⟩; refine halt_here ?_))
  unfold Halted
  have g0 := (hB9.block _ (Array.getElem?_eq_some_iff.1 f0).1).trans f0
  have g1 := (hB9.block _ (Array.getElem?_eq_some_iff.1 f1).1).trans f1
  have g2 := (hB9.block _ (Array.getElem?_eq_some_iff.1 f2).1).trans f2
  have g3 := (hB9.block _ (Array.getElem?_eq_some_iff.1 f3).1).trans f3
  have hBx := hBw.trans (hB9.mono hBw.size)
  clear x0 x1 f0 f1 f2 f3
  have f3 := g3
  obtain ⟨x0, x1⟩ := cell_row2 g0
  obtain ⟨y0, y1⟩ := cell_row2 g1
  obtain ⟨s0, s1⟩ := cell_row2 g2
  obtain ⟨hd, ho, hka⟩ := HD.out
  clear HD
  cases r with
  | some j =>
    simp only [putPairD] at hd
    have hjl : j < o.l.length := by
      obtain ⟨x, hx, -⟩ := hka.2.1
      exact (List.getElem?_eq_some_iff.1 hx).1
    have H1 := sets_pl (h.below hBx) c k ho ((j : Int) + 1) u hd
    clear hd ho hka
    simp only [Option.getD_some, Option.isSome_some]
    go_wp2_with (first
      | (go_at_call 258; (with_reducible refine H1.mono ?_); clear H1; rintro e w1 ⟨q, c_, q2, rfl, h1, h2, hB1⟩; have hr := (hB1.block _ (Array.getElem?_eq_some_iff.1 f3).1).trans f3; obtain ⟨⟨z0, z1, z2, z3, z4, z5, z6, z7, z8, z9, z10, z11, z12⟩, t0, t1, t2, t3, t4, t5, t6, t7, t8, t9, t10, t11, t12⟩ := cell_row13 hr))
    refine bodyPost_ret (results_cell_row (by rfl) _ _ (w.heap.size + 1 + 1 + 1) 100 _ _ _ (by rfl) (set13_row hr) Tryz.underlying100 (by rfl) infoDeed) (by rfl) ?_
    exact deed_fin hr (by omega) d h1 h2 (hBx.trans (hB1.mono hBx.size))
  | none =>
    simp only [putPairD] at hd
    clear hka
    simp only [Option.getD_none, Option.isSome_none]
    by_cases h6 : o.l.length = 131072
    · rw [if_pos h6] at hd
      have H1 := throwsD hd w9
      unfold tItems at H1
      have h6n : ((o.l.length : Int) == 131072) = true := by simp; omega
      clear hd ho h6 hlo
      go_wp2_with (first
        | (go_at_call 154; (with_reducible refine H1.mono ?_); clear H1; rintro e w1 ⟨q, c_, q2, rfl, h1, h2, hB1⟩; have hr := (hB1.block _ (Array.getElem?_eq_some_iff.1 f3).1).trans f3; obtain ⟨⟨z0, z1, z2, z3, z4, z5, z6, z7, z8, z9, z10, z11, z12⟩, t0, t1, t2, t3, t4, t5, t6, t7, t8, t9, t10, t11, t12⟩ := cell_row13 hr))
      refine bodyPost_ret (results_cell_row (by rfl) _ _ (w.heap.size + 1 + 1 + 1) 100 _ _ _ (by rfl) (set13_row hr) Tryz.underlying100 (by rfl) infoDeed) (by rfl) ?_
      exact deed_fin hr (by omega) d h1 h2 (hBx.trans (hB1.mono hBx.size))
    · rw [if_neg h6] at hd
      have h6' : ¬ ((o.l.length : Int) = 131072) := by omega
      have hBU := below1 w9 (.cells #[.int .u8 kk.k, .int .i64 kk.n, .int .u8 u.k, .int .i64 u.n] 27)
      have hBw2 := hBx.trans (hBU.mono hBx.size)
      have H1 := addsD (h.below hBw2) c k ho 8 (by decide) (more := [kk, u]) (by simp) hr0 hr1 (vt_two (heap_alloc_new w9 (.cells #[.int .u8 kk.k, .int .i64 kk.n, .int .u8 u.k, .int .i64 u.n] 27))) hd
      have f3' := (hBU.block _ (Array.getElem?_eq_some_iff.1 f3).1).trans f3
      simp only [List.length_cons, List.length_nil, show ((8 : Nat) : Int) = 8 from rfl] at H1
      clear hd ho h6
      go_wp2_with (first
        | (go_at_call 259; (with_reducible refine H1.mono ?_); clear H1; rintro e w1 ⟨q, c_, q2, rfl, h1, h2, hB1⟩; have hr := (hB1.block _ (Array.getElem?_eq_some_iff.1 f3').1).trans f3'; obtain ⟨⟨z0, z1, z2, z3, z4, z5, z6, z7, z8, z9, z10, z11, z12⟩, t0, t1, t2, t3, t4, t5, t6, t7, t8, t9, t10, t11, t12⟩ := cell_row13 hr))
      refine bodyPost_ret (results_cell_row (by rfl) _ _ (w.heap.size + 1 + 1 + 1) 100 _ _ _ (by rfl) (set13_row hr) Tryz.underlying100 (by rfl) infoDeed) (by rfl) ?_
      exact deed_fin hr (by omega) d h1 h2 (hBw2.trans (hB1.mono hBw2.size))


end Go.Proofs.YtgokofomoachaaaGreatDoor
