/- prim: freeNumber. -/
import Derived.Test.YtgokofomoachaaaGreatDoorPnOps
import Derived.Test.YtgokofomoachaaaGreatDoorShTour
import Derived.Laws.EntriesVeiled
import Derived.Test.YtgokofomoachaaaGreatDoorShLead
import Derived.OwnWalk
import Derived.Laws.AppendOwn
import Derived.RangeFuncNested
import Derived.RangeFuncBound
import Derived.RangeFuncCalls
import Derived.RangeFuncLeaves
import Derived.RangeFuncBox
import Derived.Shelf.Abstract
import Derived.Shelf.RegionOpen
import Derived.WalkKit
import Derived.OwnWalkIn
import Derived.TacticsInMore
import Derived.LoopNIn
import Derived.LoopIn
import Derived.RegionIn
import Derived.Test.YtgokofomoachaaaGreatDoorPnPut2
namespace Go.Proofs.YtgokofomoachaaaGreatDoor
set_option linter.unusedVariables false
set_option linter.unusedSimpArgs false
open Go.RowKit Go.Maps

variable {w : World}

/-- What changes but a map. -/
structure MStep (bM : Nat) (w w' : World) : Prop where
  os : w'.os = w.os
  tape : w'.tape = w.tape
  output : w'.output = w.output
  size : w.heap.size ≤ w'.heap.size
  block : ∀ k, k < w.heap.size → k ≠ bM → w'.heap[k]? = w.heap[k]?

theorem MStep.refl (bM : Nat) (w : World) : MStep bM w w := ⟨rfl, rfl, rfl, Nat.le_refl _, fun _ _ _ => rfl⟩

theorem MStep.trans {bM : Nat} {a b c : World} (h : MStep bM a b) (g : MStep bM b c) : MStep bM a c :=
  ⟨g.os.trans h.os, g.tape.trans h.tape, g.output.trans h.output, Nat.le_trans h.size g.size, fun k hk hn => (g.block k (Nat.lt_of_lt_of_le hk h.size) hn).trans (h.block k hk hn)⟩

theorem MStep.alloc {bM : Nat} {a b : World} (h : MStep bM a b) (o : Obj) : MStep bM a (b.alloc o) :=
  ⟨h.os, h.tape, h.output, by have := h.size; simp; omega, fun k hk hn => (Below.heap_alloc b o k (Nat.lt_of_lt_of_le hk h.size)).trans (h.block k hk hn)⟩

theorem MStep.below {bM n : Nat} {a b : World} (h : MStep bM a b) (hn : n ≤ bM) (hs : n ≤ a.heap.size) : Below n a b := ⟨h.os, h.tape, h.output, h.size, fun k hk => h.block k (by omega) (by omega)⟩

theorem MStep.cell {bM : Nat} {a b : World} (h : MStep bM a b) {x : Addr} {v : Value} (hx : a.cell? x = some v) (hn : x.block ≠ bM) : b.cell? x = some v :=
  (World.cell?_of_block (h.block x.block (World.block_lt_of_cell? a x hx) hn)).trans hx

theorem IsCnt.count {bM K : Nat} {cnt : Int → Nat} (h : IsCnt w bM K cnt) (x : Int) (hx : -9223372036854775808 ≤ x ∧ x ≤ 9223372036854775807) (hK : K < maxLen) (hK2 : K ≤ 1099511627776) :
    ∃ w2, (Instr.mapUpdate 310 (.map (some bM)) (.int .i64 x) (.int .i64 ((cnt x : Nat) + 1))).run Tryz.prog w = .ok () w2 ∧ IsCnt w2 bM (K + 1) (fun y => if y = x then cnt y + 1 else cnt y) ∧ MStep bM w w2 := by
  obtain ⟨D, g1, g2⟩ := h
  have hkey : keyOf Tryz.prog 2 (.int .i64 x) = some (.int .i64 x) := keyOf_int_mk Tryz.underlying2 (wfI hx)
  obtain ⟨w2, hrun, hown, hgrow⟩ := g1.update lawI Tryz.underlying310 hK hkey (val := .int .i64 ((cnt x : Nat) + 1)) (plainElem_int Tryz.underlying3 (wfI (by have := (g2 x).2; omega)))
  have hbl : ∀ k, k < w.heap.size → k ≠ bM → w2.heap[k]? = w.heap[k]? := fun k hk hne => hgrow.block k hk (fun e => hne (by simpa using e))
  have hms := g1.isMap
  refine ⟨w2, hrun, ⟨_, hown, fun y => ?_⟩, ⟨hgrow.os, hgrow.tape, hgrow.output, hgrow.size, hbl⟩⟩
  by_cases hy : y = x
  · subst hy
    rw [atKey_put_same hms (by simp [WideAt.IsKeyLit])]
    have := (g2 y).2
    simp; omega
  · have hk : (Lit.int .i64 y) ≠ Lit.int .i64 x := by
      intro e
      injection e with _ e
      exact hy e
    rw [atKey_put_other hk, (g2 y).1]
    have := (g2 y).2
    simp [hy]; omega

/-- The numbers that values of a kind have, above a number. -/
def tk (k : Nat) (n : Int) (l : List Vl) : List Int := (l.filter (fun v => decide (v.k = k ∧ n < v.n))).map Vl.n

theorem count_snoc (T : List Int) (x : Int) : (fun y => if y = x then T.count y + 1 else T.count y) = fun y => (T ++ [x]).count y := by
  funext y
  rw [List.count_append]
  by_cases h : y = x
  · subst h; simp
  · have : List.count y [x] = 0 := by simp [List.count_cons]; exact fun e => h e.symm
    rw [if_neg h, this]; rfl

set_option maxRecDepth 20000 in
set_option maxHeartbeats 2000000 in
theorem take_in {Bo Bs Bt bM K : Nat} {k : Nat} {b1 b2 b3 b4 : Value} {p : Option Addr} {n c : Nat} {T : List Int} (hBo : w.heap[Bo]? = some (.cells #[.int .u8 k, b1, b2, b3, b4] 96 (0, 0))) (hBs : w.heap[Bs]? = some (.cells #[.slice p n c] 23 (0, 0))) (hBt : w.heap[Bt]? = some (.cells #[.map (some bM)] 310 (0, 0)))
    (hc : IsCnt w bM K (fun x => T.count x)) {q : Option Addr} {l : List Vl} (cq : Nat) (hv : Vals w q l) (hfit : ∀ v ∈ l, v.fits) (hK : K + l.length ≤ 1099511627776) :
    Calls Tryz.prog 255 #[.slice q l.length cq, .pointer (some ⟨Bo, 0, none⟩), .pointer (some ⟨Bs, 0, none⟩), .pointer (some ⟨Bt, 0, none⟩)] w fun e w' => e = .returned (.tuple #[]) ∧ IsCnt w' bM (K + l.length) (fun x => (T ++ tk k n l).count x) ∧ MStep bM w w' := by
  have hoM := hc.other hBo
  have hsM := hc.other hBs
  have htM := hc.other hBt
  have hMl := hc.lt
  have lo := (Array.getElem?_eq_some_iff.1 hBo).1
  have ls := (Array.getElem?_eq_some_iff.1 hBs).1
  have lt := (Array.getElem?_eq_some_iff.1 hBt).1
  go_enter Tryz.func255, Tryz.ntmps255
  go_wp2
  go_loopw [9] (fun s9 wr => ∃ (pre rest : List Vl), l = pre ++ rest ∧ s9 = .int .i64 pre.length ∧ IsCnt wr bM (K + pre.length) (fun x => (T ++ tk k n pre).count x) ∧ MStep bM w wr) (fun s9 _ => l.length - (intOf s9).toNat)
  case atStart => exact ⟨[], l, rfl, rfl, by simpa [tk] using hc, MStep.refl _ _⟩
  case round =>
    obtain ⟨pre, rest, hR, rfl, hC, hS⟩ := hrel
    have hz := hS.size
    cases rest with
    | nil =>
      have hR' : l = pre := by simpa using hR
      have hq : ¬ ((pre.length : Int) < (l.length : Int)) := by rw [hR']; omega
      have HR : Hid _ := hR'
      clear hR hR'
      go_wp2
      go_end0
      refine ⟨rfl, ?_, hS⟩
      rw [HR.out]
      have := hC
      simp only [List.count_append] at this ⊢
      exact this
    | cons v rest =>
      have hvl : l[pre.length]? = some v := by rw [hR]; simp
      have hlt : pre.length < l.length := by rw [hR]; simp
      have hlt' : (pre.length : Int) < (l.length : Int) := by omega
      have hvf := hfit v (by rw [hR]; simp)
      obtain ⟨b0, off, rfl, c0, c1⟩ := hv pre.length v hvl
      have hb0M : b0 ≠ bM := by
        rintro rfl
        obtain ⟨es, cl, h1⟩ := hc.isMap
        rw [show w.cell? ⟨b0, off + pre.length * 2, none⟩ = none by simp [World.cell?, h1]] at c0
        cases c0
      have d0 := hS.cell c0 hb0M
      have d1 := hS.cell c1 hb0M
      have eo := (hS.block Bo lo hoM).trans hBo
      have es := (hS.block Bs ls hsM).trans hBs
      have et := (hS.block Bt lt htM).trans hBt
      have hA := below1 wr (.cells #[.int .u8 v.k, .int .i64 v.n] 27)
      obtain ⟨x0, x1⟩ := cell_row2 (heap_alloc_new wr (.cells #[.int .u8 v.k, .int .i64 v.n] 27))
      obtain ⟨⟨o0, -, -, -, -⟩, -⟩ := cell_row5 ((hA.block _ (Array.getElem?_eq_some_iff.1 eo).1).trans eo)
      obtain ⟨s0, -⟩ := cell_row1 ((hA.block _ (Array.getElem?_eq_some_iff.1 es).1).trans es)
      obtain ⟨t0, -⟩ := cell_row1 ((hA.block _ (Array.getElem?_eq_some_iff.1 et).1).trans et)
      have hC1 := hC.kept (w' := wr.alloc (.cells #[.int .u8 v.k, .int .i64 v.n] 27)) (hA.block _ hC.lt)
      have hS1 := hS.alloc (.cells #[.int .u8 v.k, .int .i64 v.n] 27)
      have e1 : (((pre ++ [v]).length : Nat) : Int) = pre.length + 1 := by simp
      have HR : Hid _ := hR
      clear hR hvl hv hfit
      by_cases hk : v.k = k
      · by_cases hn : (n : Int) < v.n
        · have etk : tk k n (pre ++ [v]) = tk k n pre ++ [v.n] := by unfold tk; rw [List.filter_append]; simp [hk, hn]
          have hlook := hC1.look v.n hvf.2
          obtain ⟨w3, hrun, hC3, hS3⟩ := hC1.count v.n hvf.2 (by unfold maxLen; omega) (by omega)
          have hcle : (T ++ tk k n pre).count v.n ≤ K + pre.length := by obtain ⟨D, -, g2⟩ := hC1; exact (g2 v.n).2
          generalize (T ++ tk k n pre).count v.n = cv at hlook hrun hcle
          subst hk
          have HE : Hid _ := etk
          clear etk
          go_wp2
          go_roundw
          case rel =>
            refine ⟨pre ++ [v], rest, by have := HR.out; simpa using this, by rw [e1], ?_, hS1.trans hS3⟩
            rw [HE.out, ← List.append_assoc]
            have := hC3
            rw [count_snoc] at this
            simpa [Nat.add_assoc] using this
          case measure => simp [intOf]; omega
        · have etk : tk k n (pre ++ [v]) = tk k n pre := by unfold tk; rw [List.filter_append]; simp [hn]
          subst hk
          have HE : Hid _ := etk
          clear etk
          go_wp2
          go_roundw
          case rel =>
            refine ⟨pre ++ [v], rest, by have := HR.out; simpa using this, by rw [e1], ?_, hS1⟩
            rw [HE.out]
            exact hC1.more (by simp)
          case measure => simp [intOf]; omega
      · have etk : tk k n (pre ++ [v]) = tk k n pre := by unfold tk; rw [List.filter_append]; simp [hk]
        have hk' : ((v.k : Int) == (k : Int)) = false := by simp; omega
        have hkn : ¬ ((v.k : Int) = (k : Int)) := by omega
        have HE : Hid _ := etk
        clear etk
        go_wp2
        go_roundw
        case rel =>
          refine ⟨pre ++ [v], rest, by have := HR.out; simpa using this, by rw [e1], ?_, hS1⟩
          rw [HE.out]
          exact hC1.more (by simp)
        case measure => simp [intOf]; omega

/-- All numbers that are taken. -/
def tkS (k : Nat) (n : Int) (S : List Om) : List Int := (S.map (fun x => tk k n x.l)).flatten

theorem tkS_snoc (k : Nat) (n : Int) (S : List Om) (x : Om) : tkS k n (S ++ [x]) = tkS k n S ++ tk k n x.l := by simp [tkS]

theorem tk_len (k : Nat) (n : Int) (l : List Vl) : (tk k n l).length ≤ l.length := by unfold tk; rw [List.length_map]; exact List.length_filter_le _ _

theorem tkS_len (k : Nat) (n : Int) : ∀ S : List Om, (tkS k n S).length ≤ sumL S
  | [] => by simp [tkS]
  | x :: r => by
    have h1 := tkS_len k n r
    have h2 := tk_len k n x.l
    simp only [tkS, sumL, List.map_cons, List.flatten_cons, List.length_append, List.sum_cons] at *
    omega

theorem mem_tk {k : Nat} {n x : Int} {l : List Vl} : x ∈ tk k n l ↔ ∃ v ∈ l, v.k = k ∧ n < v.n ∧ v.n = x := by
  unfold tk
  simp only [List.mem_map, List.mem_filter, decide_eq_true_eq]
  constructor
  · rintro ⟨v, ⟨h1, h2, h3⟩, h4⟩; exact ⟨v, h1, h2, h3, h4⟩
  · rintro ⟨v, h1, h2, h3, h4⟩; exact ⟨v, ⟨h1, h2, h3⟩, h4⟩

/-- A free number. -/
def FreeP (S : List Om) (o : Om) (n : Nat) : Prop := S.length < n ∧ n ≤ S.length + 1 + sumL S + o.l.length ∧ (∀ v ∈ o.l, ¬ (v.k = o.k ∧ v.n = n)) ∧ ∀ x ∈ S, ∀ v ∈ x.l, ¬ (v.k = o.k ∧ v.n = n)

theorem free_of {S : List Om} {o : Om} {n : Nat} (h1 : S.length < n) (h2 : n ≤ S.length + 1 + sumL S + o.l.length) (h3 : (n : Int) ∉ tk o.k S.length o.l ++ tkS o.k S.length S) : FreeP S o n := by
  refine ⟨h1, h2, fun v hv hh => h3 ?_, fun x hx v hv hh => h3 ?_⟩
  · exact List.mem_append_left _ (mem_tk.2 ⟨v, hv, hh.1, by rw [hh.2]; omega, hh.2⟩)
  · refine List.mem_append_right _ (List.mem_flatten.2 ⟨tk o.k S.length x.l, List.mem_map.2 ⟨x, hx, rfl⟩, ?_⟩)
    exact mem_tk.2 ⟨v, hv, hh.1, by rw [hh.2]; omega, hh.2⟩

def above (T : List Int) (n : Nat) : Nat := (T.filter (fun x => decide ((n : Int) ≤ x))).length

theorem above_step {T : List Int} {n : Nat} (h : (n : Int) ∈ T) : above T (n + 1) < above T n := by
  induction T with
  | nil => simp at h
  | cons a r ih =>
    unfold above at *
    rw [List.filter_cons, List.filter_cons]
    have hmono : (r.filter (fun x => decide (((n + 1 : Nat) : Int) ≤ x))).length ≤ (r.filter (fun x => decide ((n : Int) ≤ x))).length := by
      clear ih h
      induction r with
      | nil => simp
      | cons b t ih =>
        rw [List.filter_cons, List.filter_cons]
        by_cases h1 : ((n + 1 : Nat) : Int) ≤ b
        · rw [if_pos (by simpa using h1), if_pos (by simp; omega)]; simp only [List.length_cons]; omega
        · rw [if_neg (by simpa using h1)]
          by_cases h2 : (n : Int) ≤ b
          · rw [if_pos (by simpa using h2)]; simp only [List.length_cons]; omega
          · rw [if_neg (by simpa using h2)]; exact ih
    rcases List.mem_cons.1 h with rfl | hr
    · rw [if_neg (by simp; omega), if_pos (by simp)]; simp only [List.length_cons]; omega
    · have := ih hr
      by_cases h1 : ((n + 1 : Nat) : Int) ≤ a
      · rw [if_pos (by simpa using h1), if_pos (by simp; omega)]; simp only [List.length_cons]; omega
      · rw [if_neg (by simpa using h1)]
        by_cases h2 : (n : Int) ≤ a
        · rw [if_pos (by simpa using h2)]; simp only [List.length_cons]; omega
        · rw [if_neg (by simpa using h2)]; exact this

theorem above_le (T : List Int) (n : Nat) : above T n ≤ T.length := List.length_filter_le _ _

set_option maxRecDepth 20000 in
set_option maxHeartbeats 2000000 in
theorem freeNumber_in {p : Option Addr} {S : List Om} (h : Ask w p S) (c : Nat) (o : Om) {q : Option Addr} (co : Nat) (hv : Vals w q o.l) (hfit : ∀ v ∈ o.l, v.fits) (hsum : S.length + 1 + sumL S + o.l.length ≤ 1048576) :
    Calls Tryz.prog 186 #[.slice p S.length c, .agg #[.int .u8 o.k, .string o.s, .slice q o.l.length co, .int .i64 o.room, .int .i64 o.fn]] w fun e w' => ∃ n : Nat, e = .returned (.int .i64 n) ∧ FreeP S o n ∧ Below w.heap.size w w' := by
  have hlen := h.len
  have hmm := @run_makeMap Tryz.prog
  have hB := below4' w (.cells #[.slice p S.length c] 23) (.cells #[.int .u8 o.k, .string o.s, .slice q o.l.length co, .int .i64 o.room, .int .i64 o.fn] 96) (.map #[] 0) (.cells #[.map (some (w.heap.size + 1 + 1))] 310)
  have b0 := heap4_0 w (.cells #[.slice p S.length c] 23) (.cells #[.int .u8 o.k, .string o.s, .slice q o.l.length co, .int .i64 o.room, .int .i64 o.fn] 96) (.map #[] 0) (.cells #[.map (some (w.heap.size + 1 + 1))] 310)
  have b1 := heap4_1 w (.cells #[.slice p S.length c] 23) (.cells #[.int .u8 o.k, .string o.s, .slice q o.l.length co, .int .i64 o.room, .int .i64 o.fn] 96) (.map #[] 0) (.cells #[.map (some (w.heap.size + 1 + 1))] 310)
  have b3 := heap4_3 w (.cells #[.slice p S.length c] 23) (.cells #[.int .u8 o.k, .string o.s, .slice q o.l.length co, .int .i64 o.room, .int .i64 o.fn] 96) (.map #[] 0) (.cells #[.map (some (w.heap.size + 1 + 1))] 310)
  have hC0 : IsCnt ((((w.alloc (.cells #[.slice p S.length c] 23)).alloc (.cells #[.int .u8 o.k, .string o.s, .slice q o.l.length co, .int .i64 o.room, .int .i64 o.fn] 96)).alloc (.map #[] 0)).alloc (.cells #[.map (some (w.heap.size + 1 + 1))] 310)) (w.heap.size + 1 + 1) 0 (fun x => ([] : List Int).count x) := by
    have h0 : IsCnt (((w.alloc (.cells #[.slice p S.length c] 23)).alloc (.cells #[.int .u8 o.k, .string o.s, .slice q o.l.length co, .int .i64 o.room, .int .i64 o.fn] 96)).alloc (.map #[] 0)) (w.heap.size + 1 + 1) 0 (fun _ => 0) := by
      have := World.ownsMap_made (H := Unit) ((w.alloc (.cells #[.slice p S.length c] 23)).alloc (.cells #[.int .u8 o.k, .string o.s, .slice q o.l.length co, .int .i64 o.room, .int .i64 o.fn] 96)) Tryz.prog 2 (plainElem Tryz.prog 3)
      rw [show ((w.alloc (.cells #[.slice p S.length c] 23)).alloc (.cells #[.int .u8 o.k, .string o.s, .slice q o.l.length co, .int .i64 o.room, .int .i64 o.fn] 96)).heap.size = w.heap.size + 1 + 1 by simp] at this
      exact ⟨.map [], this, fun x => ⟨by simp [DataW.atKey], Nat.le_refl _⟩⟩
    have h1 := h0.kept (w' := (((w.alloc (.cells #[.slice p S.length c] 23)).alloc (.cells #[.int .u8 o.k, .string o.s, .slice q o.l.length co, .int .i64 o.room, .int .i64 o.fn] 96)).alloc (.map #[] 0)).alloc (.cells #[.map (some (w.heap.size + 1 + 1))] 310)) (Below.heap_alloc _ _ _ (by simp))
    simpa using h1
  obtain ⟨⟨x0, x1, x2, x3, x4⟩, -⟩ := cell_row5 b1
  go_enter Tryz.func186, Tryz.ntmps186
  go_wp2_with (first
    | (go_at_call 255; refine halt_here ?_))
  unfold Halted
  generalize hW : (((w.alloc (.cells #[.slice p S.length c] 23)).alloc (.cells #[.int .u8 o.k, .string o.s, .slice q o.l.length co, .int .i64 o.room, .int .i64 o.fn] 96)).alloc (.map #[] 0)).alloc (.cells #[.map (some (w.heap.size + 1 + 1))] 310) = W at *
  have hWs : W.heap.size = w.heap.size + 4 := by rw [← hW]; simp
  have HW : Hid _ := hWs
  clear hmm hW hWs
  have l0 := (Array.getElem?_eq_some_iff.1 b0).1
  have l1 := (Array.getElem?_eq_some_iff.1 b1).1
  have l3 := (Array.getElem?_eq_some_iff.1 b3).1
  have HT := take_in (T := []) b1 b0 b3 hC0 co (hv.below hB) hfit (by omega)
  refine Calls.mono HT ?_
  clear HT x0 x1 x2 x3 x4
  rintro e w1 ⟨rfl, hC1, hS1⟩
  have c0 := (hS1.block _ l0 (by omega)).trans b0
  obtain ⟨s0, -⟩ := cell_row1 c0
  simp only [List.nil_append, Nat.zero_add] at hC1
  go_wp2_with fail
  go_loopw [18] (fun s18 wr => ∃ (pre rest : List Om), S = pre ++ rest ∧ s18 = .int .i64 pre.length ∧ IsCnt wr (w.heap.size + 1 + 1) (o.l.length + sumL pre) (fun x => (tk o.k S.length o.l ++ tkS o.k S.length pre).count x) ∧ MStep (w.heap.size + 1 + 1) W wr) (fun s18 _ => S.length - (intOf s18).toNat)
  case atStart => exact ⟨[], S, rfl, rfl, by simpa [tkS, sumL] using hC1, hS1⟩
  case round =>
    obtain ⟨pre, rest, hR, rfl, hC, hS⟩ := hrel
    have hBw : Below w.heap.size w wr := hB.trans (hS.below (by omega) (by have := HW.out; omega))
    have d0 := (hS.block _ l0 (by omega)).trans b0
    have d1 := (hS.block _ l1 (by omega)).trans b1
    have d3 := (hS.block _ l3 (by omega)).trans b3
    obtain ⟨s0, -⟩ := cell_row1 d0
    obtain ⟨t0, -⟩ := cell_row1 d3
    have hsumS : sumL pre ≤ sumL S := by rw [hR]; unfold sumL; simp
    cases rest with
    | nil =>
      have hR' : S = pre := by simpa using hR
      have hq : ¬ ((pre.length : Int) < (S.length : Int)) := by rw [hR']; omega
      have HR : Hid _ := hR'
      rw [← hR'] at hC
      have hTl : (tk o.k S.length o.l ++ tkS o.k S.length S).length ≤ o.l.length + sumL S := by
        have := tk_len o.k S.length o.l
        have := tkS_len o.k S.length S
        rw [List.length_append]; omega
      have HF : Hid _ := @free_of S o
      generalize tk o.k S.length o.l ++ tkS o.k S.length S = T at hC hTl HF
      clear hR hR'
      go_wp2_with fail
      go_loopw [9] (fun s9 w2 => ∃ n : Nat, s9 = .int .i64 n ∧ S.length < n ∧ n + above T n ≤ S.length + 1 + T.length ∧ w2 = wr) (fun s9 _ => above T (intOf s9).toNat)
      case atStart => exact ⟨S.length + 1, by simp, by omega, by have := above_le T (S.length + 1); omega, rfl⟩
      case round =>
        obtain ⟨n, rfl, hn1, hn2, rfl⟩ := hrel
        have hlook := hC.look n ⟨by omega, by omega⟩
        by_cases hc : 0 < T.count (n : Int)
        · have hmem := List.count_pos_iff.1 hc
          have hstep := above_step hmem
          have hc' : (0 : Int) < (T.count (n : Int) : Int) := by omega
          go_wp2
          go_roundw
          case rel => exact ⟨n + 1, by simp, by omega, by omega, by first | rfl | trivial⟩
          case measure => simp [intOf]; exact hstep
        · have hc' : ¬ ((0 : Int) < (T.count (n : Int) : Int)) := by omega
          have hnm : (n : Int) ∉ T := fun hm => hc (List.count_pos_iff.2 hm)
          go_wp2
          go_ret
          exact ⟨n, rfl, HF.out hn1 (by omega) hnm, hBw⟩
    | cons x rest =>
      have hxl : S[pre.length]? = some x := by rw [hR]; simp
      have hlt : pre.length < S.length := by rw [hR]; simp
      have hlt' : (pre.length : Int) < (S.length : Int) := by omega
      have hxm : x ∈ S := List.mem_of_getElem? hxl
      obtain ⟨b0', off, rfl, g0, g1, ⟨qx, cx, g2, hvx, -⟩, g3, g4⟩ := h.st.look hBw hxl
      have hA := below1 wr (.cells #[.int .u8 x.k, .string x.s, .slice qx x.l.length cx, .int .i64 x.room, .int .i64 x.fn] 96)
      have hS1' := hS.alloc (.cells #[.int .u8 x.k, .string x.s, .slice qx x.l.length cx, .int .i64 x.room, .int .i64 x.fn] 96)
      obtain ⟨⟨y0, y1, y2, y3, y4⟩, -⟩ := cell_row5 (heap_alloc_new wr (.cells #[.int .u8 x.k, .string x.s, .slice qx x.l.length cx, .int .i64 x.room, .int .i64 x.fn] 96))
      have hsx : sumL pre + x.l.length ≤ sumL S := by rw [hR]; unfold sumL; simp <;> omega
      have HT := take_in ((hA.block _ (Array.getElem?_eq_some_iff.1 d1).1).trans d1) ((hA.block _ (Array.getElem?_eq_some_iff.1 d0).1).trans d0) ((hA.block _ (Array.getElem?_eq_some_iff.1 d3).1).trans d3) (hC.kept (hA.block _ hC.lt)) cx (hvx.below (hBw.trans (hA.mono hBw.size))) (h.fit x hxm).2.1 (by omega)
      have e1 : (((pre ++ [x]).length : Nat) : Int) = pre.length + 1 := by simp
      have HR : Hid _ := hR
      clear hR hxl hsx
      go_wp2_with (first
        | (go_at_call 255; (with_reducible refine HT.mono ?_); clear HT; rintro e w2 ⟨rfl, hC2, hS2⟩))
      go_roundw
      case rel =>
        refine ⟨pre ++ [x], rest, by have := HR.out; simpa using this, by rw [e1], ?_, hS1'.trans hS2⟩
        rw [tkS_snoc, ← List.append_assoc, show sumL (pre ++ [x]) = sumL pre + x.l.length by simp [sumL], ← Nat.add_assoc]
        exact hC2
      case measure => simp [intOf]; omega

end Go.Proofs.YtgokofomoachaaaGreatDoor

namespace Go.Proofs.YtgokofomoachaaaGreatDoor
set_option linter.unusedVariables false
set_option linter.unusedSimpArgs false
open Go.RowKit

theorem run_append_zerosK {P : Program} (w : World) (base : Nat) (t ti ty e : TypeId) (ik : IntKind) (i : TypeInfo) (z : Value) (k bytes : Nat) (ht : P.underlying t = some (.slice e)) (hti : P.underlying ti = some (.int ik)) (hi : P.info? e = some i) (hz : i.zero = some z)
    (hk : 0 < k) (hsize : i.size = k) (hby : i.bytes = bytes) (hzs : z.cells.size = k) (hone : ∀ m, ∀ u ∈ (Builtin.zeroCells z.cells m).toList, u.oneCell' = true)
    (v : Value) (n : Nat) (xs : List Value) (hown : w.ownsRow base e k v n xs)
    (m : Nat) (hm : 0 < m) (h63 : n + m ≤ maxLen) (hbytes : (n + m) * bytes ≤ 140737488355328) (hbase : base ≤ w.heap.size) :
    ∃ v' w', (Builtin.append_ #[t, ti] ty #[v, .int .i64 (m : Int)]).run P w = .ok v' w' ∧ w'.ownsRow base e k v' (n + m) (xs ++ (Builtin.zeroCells z.cells m).toList) ∧ w.grownBy w' v.ownBlock ∧ (v'.ownBlock = v.ownBlock ∨ v'.ownBlock = some w.heap.size) := by
  subst hby
  have hzl : ∀ m, (Builtin.zeroCells z.cells m).toList.length = m * k := fun m => by rw [Array.length_toList, size_zeroCells, hzs]
  have hmb : m * i.bytes ≤ 140737488355328 := Nat.le_trans (Nat.mul_le_mul_right _ (by omega)) hbytes
  have hsmall : n + m ≤ 9223372036854775807 := by simp only [maxLen] at h63; omega
  have hwrap : IntKind.i64.wrap (m : Int) = (m : Int) := by
    rw [IntKind.wrap_i64]; omega
  have hneg : ¬ ((m : Int) < 0) := by omega
  have hbig : ¬ ((m : Int) * (i.bytes : Int) > 281474976710656) := by
    have : ((m * i.bytes : Nat) : Int) ≤ 140737488355328 := by omega
    rw [Int.natCast_mul] at this; omega
  have hm0 : m ≠ 0 := by omega
  have hmk0 : ¬ m * k = 0 := Nat.ne_of_gt (Nat.mul_pos hm hk)
  have grown : ∀ (old : Nat), old < n + m → ∀ (row : Option Nat),
      (w.drew.alloc (.cells (xs.toArray ++ Builtin.zeroCells z.cells m ++ Builtin.zeroCells z.cells (grownCap w (n + m) old e - (n + m))) e)).ownsRow base e k
        (.slice (some ⟨w.heap.size, 0, none⟩) (n + m) (grownCap w (n + m) old e)) (n + m) (xs ++ (Builtin.zeroCells z.cells m).toList) ∧
      w.grownBy (w.drew.alloc (.cells (xs.toArray ++ Builtin.zeroCells z.cells m ++ Builtin.zeroCells z.cells (grownCap w (n + m) old e - (n + m))) e)) row := by
    intro old ho row
    have hge := grownCap_ge w (n + m) old e
    have hcm : grownCap w (n + m) old e ≤ maxLen := grownCap_le_maxLen w (n + m) old e h63
    have hxl : xs.length = n * k := hown.1
    have hsum : n * k + m * k = (n + m) * k := (Nat.add_mul n m k).symm
    have hsum2 : (n + m) * k + (grownCap w (n + m) old e - (n + m)) * k = grownCap w (n + m) old e * k := by rw [← Nat.add_mul]; congr 1; omega
    refine ⟨⟨by rw [List.length_append, hzl, hxl, hsum], .inr ⟨w.heap.size, _, _, rfl, hbase, heap_alloc_new w.drew _, hge, hcm, ?_, ?_⟩⟩, ⟨rfl, rfl, rfl, by simp, fun k hk _ => Below.heap_alloc w.drew _ k hk⟩⟩
    · simp only [Array.size_append, List.size_toArray, size_zeroCells, hxl, hzs]
      omega
    · simp only [Array.toList_append]
      rw [List.take_append_of_le_length (by rw [List.length_append, hzl]; simp only [hxl]; omega), List.take_of_length_le (by rw [List.length_append, hzl]; simp only [hxl]; omega)]
  rcases hown.2 with ⟨rfl, rfl⟩ | ⟨g, cap, cur, rfl, hbg, hg, hnc, hcm, hcs, htake⟩
  · have hx : xs = [] := List.eq_nil_of_length_eq_zero (by simpa using hown.1)
    subst hx
    have hgr := grown 0 (by omega) (Value.ownBlock (.slice none 0 0))
    simp only [Nat.zero_add, List.nil_append, Array.empty_append] at hgr ⊢
    refine ⟨_, _, ?_, hgr.1, hgr.2, .inr rfl⟩
    have h63' : ¬ (9223372036854775807 < (m : Int)) := by omega
    have h48' : ¬ (281474976710656 < Builtin.nextslicecap m 0 * i.bytes) := by rw [nextslicecap_zero hm]; omega
    simp [Builtin.append_, run_underlying ht, run_underlying hti, sizeOf, typeInfo, zeroValue, hi, hz, hsize, asInt, asIntOf, hwrap, hneg, hbig, hm0, h63', h48', Question.forced, run_firstCells_none, newRow, grownCap]
    exact fun h => absurd h hmk0
  · by_cases hroom : n + m ≤ cap
    · have hfit : (n + m) * k ≤ cur.size := by rw [hcs]; exact Nat.mul_le_mul_right _ hroom
      have hsum : n * k + m * k = (n + m) * k := (Nat.add_mul n m k).symm
      have hst := run_storeCells_at P g (n * k) e (Builtin.zeroCells z.cells m).toList 0 cur w hg (by rw [hzl]; omega) (hone m)
      simp only [Nat.add_zero] at hst
      rw [hzl, hsum] at hst
      refine ⟨_, _, ?_, ⟨?_, .inr ⟨g, cap, _, rfl, hbg, setRow_heap w g cur (cur.toList.take (n * k) ++ (Builtin.zeroCells z.cells m).toList ++ cur.toList.drop ((n + m) * k)).toArray e _ hg, hroom, hcm, ?_, ?_⟩⟩, ⟨rfl, rfl, rfl, by simp, fun k _ hk => setRow_other w g k _ (fun e => hk (by simp [Value.ownBlock, e]))⟩, .inl rfl⟩
      · simp [Builtin.append_, run_underlying ht, run_underlying hti, sizeOf, typeInfo, zeroValue, hi, hz, hsize, asInt, asIntOf, hwrap, hneg, hbig, hm0, hroom, Addr.add_lit, hst]
        exact fun h => absurd h hmk0
      · rw [List.length_append, hzl, hown.1, hsum]
      · simp only [List.size_toArray, List.length_append, List.length_take, List.length_drop, Array.length_toList]
        have := hzl m
        rw [Array.length_toList] at this
        rw [this, hcs]
        have : n * k ≤ cap * k := Nat.mul_le_mul_right _ (by omega)
        have : (n + m) * k ≤ cap * k := Nat.mul_le_mul_right _ hroom
        omega
      · have hxl : xs.length = n * k := hown.1
        rw [htake, List.take_append_of_le_length (by rw [List.length_append, hzl, hxl]; omega), List.take_of_length_le (by rw [List.length_append, hzl, hxl]; omega)]
    · have holds : ∀ j u, xs[j]? = some u → w.cell? ((⟨g, 0, none⟩ : Addr).add j) = some u := hown.cells (g := g) rfl
      have hgr := grown cap (by omega) (Value.ownBlock (.slice (some ⟨g, 0, none⟩) n cap))
      refine ⟨_, _, ?_, hgr.1, hgr.2, .inr rfl⟩
      have h63' : ¬ (9223372036854775807 < ((n : Int) + (m : Int))) := by omega
      have h48' : ¬ (281474976710656 < Builtin.nextslicecap (n + m) cap * i.bytes) := by have := growslice_fits (need := n + m) (old := cap) (by omega) hbytes; omega
      have hfo := run_firstCells_some (P := P) w.drew k n ⟨g, 0, none⟩ n cap xs hown.1 (by simpa using holds)
      simp [Builtin.append_, run_underlying ht, run_underlying hti, sizeOf, typeInfo, zeroValue, hi, hz, hsize, asInt, asIntOf, hwrap, hneg, hbig, hm0, hroom, h63', h48', Question.forced, hfo, newRow, grownCap]
      exact fun h => absurd h hmk0

theorem wpList_append_zerosK {P : Program} (w : World) {ops : Array Oper} {rest : List Oper} {o : Oper} {a : Act} {Q : Exit → Act → World → Prop} (hgd : o.guard = none) (s x : Operand) (t ti : TypeId)
    (ho : o.op = .call { callee := .builtin .append, args := #[s, x], argTypes := #[t, ti] })
    (base : Nat) (e : TypeId) (ik : IntKind) (i : TypeInfo) (z : Value) (k bytes : Nat) (ht : P.underlying t = some (.slice e)) (hti : P.underlying ti = some (.int ik)) (hi : P.info? e = some i) (hz : i.zero = some z)
    (hk : 0 < k) (hsize : i.size = k) (hby : i.bytes = bytes) (hzs : z.cells.size = k) (hone : ∀ m, ∀ u ∈ (Builtin.zeroCells z.cells m).toList, u.oneCell' = true)
    (v : Value) (n : Nat) (xs : List Value) (hs : a.eval s = v) (hown : w.ownsRow base e k v n xs)
    (m : Nat) (hx : a.eval x = .int .i64 (m : Int)) (hm : 0 < m) (h63 : n + m ≤ maxLen) (hbytes : (n + m) * bytes ≤ 140737488355328) (hbase : base ≤ w.heap.size)
    (h : ∀ v' w', w'.ownsRow base e k v' (n + m) (xs ++ (Builtin.zeroCells z.cells m).toList) → w.grownBy w' v.ownBlock → (v'.ownBlock = v.ownBlock ∨ v'.ownBlock = some w.heap.size) → wpList P ops Q rest (a.put o.dst v') w') : wpList P ops Q (o :: rest) a w := by
  refine wpList_plain hgd fun K hK => ?_
  obtain ⟨v', w', hr, h2, h3, h4⟩ := run_append_zerosK (P := P) w base t ti o.type e ik i z k bytes ht hti hi hz hk hsize hby hzs hone v n xs hown m hm h63 hbytes hbase
  unfold Oper.wp execOp
  simp only [ho, resolve, invoke, builtin, Sem.run_bind, Sem.run_pure, Result.andThen_ok, List.map_toArray, List.map_cons, List.map_nil, hs, hx, hr]
  exact hK _ _ (h v' w' h2 h3 h4)

end Go.Proofs.YtgokofomoachaaaGreatDoor

namespace Go.Proofs.YtgokofomoachaaaGreatDoor
set_option linter.unusedVariables false
set_option linter.unusedSimpArgs false
open Go.RowKit

variable {w : World}

def zeroO : Om := ⟨0, ⟨#[]⟩, [], 0, 0⟩

def zp : Po := ⟨zeroO, .slice none 0 0⟩

/-- A store that is made wide enough for an object with a number. -/
def wideS (S : List Om) (o : Om) (n : Nat) : List Om := S ++ List.replicate (n - S.length - 1) zeroO ++ [o]

theorem zero_pcells (m : Nat) : (Builtin.zeroCells (Value.agg #[.int .u8 0, .string ⟨#[]⟩, .slice none 0 0, .int .i64 0, .int .i64 0]).cells m).toList = pcells (List.replicate m zp) := by
  apply List.ext_getElem?
  intro j
  have hc : (Value.agg #[.int .u8 0, .string ⟨#[]⟩, .slice none 0 0, .int .i64 0, .int .i64 0]).cells = #[.int .u8 0, .string ⟨#[]⟩, .slice none 0 0, .int .i64 0, .int .i64 0] := rfl
  rw [hc]
  by_cases hj : j < m * 5
  · have e1 := pcells_get (List.replicate m zp) (j / 5) zp (by rw [List.getElem?_replicate, if_pos (by omega)]) (j % 5) (by omega)
    rw [show j / 5 * 5 + j % 5 = j by omega] at e1
    rw [e1]
    have h5 : j % 5 = 0 ∨ j % 5 = 1 ∨ j % 5 = 2 ∨ j % 5 = 3 ∨ j % 5 = 4 := by omega
    simp only [Builtin.zeroCells, Array.toList_map, List.getElem?_map, Array.toList_range, List.getElem?_range]
    simp only [List.size_toArray, List.length_cons, List.length_nil, Nat.zero_add, Nat.reduceAdd]
    rw [List.getElem?_range hj]
    rcases h5 with h5 | h5 | h5 | h5 | h5 <;> simp [h5, pcell, zp, zeroO]
  · have e1 : (pcells (List.replicate m zp))[j]? = none := by rw [List.getElem?_eq_none_iff, pcells_len, List.length_replicate]; omega
    rw [e1, List.getElem?_eq_none_iff, Array.length_toList, size_zeroCells]
    simp; omega

theorem zero_one (m : Nat) : ∀ u ∈ (Builtin.zeroCells (Value.agg #[.int .u8 0, .string ⟨#[]⟩, .slice none 0 0, .int .i64 0, .int .i64 0]).cells m).toList, u.oneCell' = true := by
  rw [zero_pcells]
  exact pcells_one (fun x hx => by rw [List.mem_replicate] at hx; rw [hx.2]; exact ⟨none, 0, rfl⟩)

theorem row_isSt {base n c : Nat} {p : Option Addr} {us : List Po} (h : w.ownsRow base 96 5 (.slice p n c) n (pcells us)) (hn : us.length = n) (hu : ∀ x ∈ us, ∃ q c, x.lv = .slice q x.o.l.length c ∧ Vals w q x.o.l ∧ (q = none → c = 0)) : IsSt w p (us.map Po.o) := by
  intro j o hj
  rw [List.getElem?_map] at hj
  cases hx : us[j]? with
  | none => rw [hx] at hj; simp at hj
  | some x =>
    rw [hx] at hj; simp at hj; subst hj
    have hlt := (List.getElem?_eq_some_iff.1 hx).1
    obtain ⟨p', c', e, -, hg, -⟩ := own_slice h
    cases e
    obtain ⟨g, rfl⟩ := hg (by omega)
    obtain ⟨q, cq, hq, hvq, hqn⟩ := hu x (List.mem_of_getElem? hx)
    obtain ⟨c0, c1, c2, c3, c4⟩ := cell_pcells h hn hx
    rw [hq] at c2
    exact ⟨g, 0, rfl, by simpa using c0, by simpa using c1, ⟨q, cq, by simpa using c2, hvq, hqn⟩, by simpa using c3, by simpa using c4⟩

/-- What mayHold says. -/
def HoldR (S : List Om) (o : Om) (w : World) (e : Ending) (w' : World) : Prop := ∃ (n : Nat) (b : Bool), FreeP S o n ∧ (b = true ↔ checkP (wideS S o n) ⟨o.k, n⟩) ∧ e = .returned (.bool b) ∧ Below w.heap.size w w'

set_option maxRecDepth 20000 in
set_option maxHeartbeats 2000000 in
theorem mayHold_in {p : Option Addr} {S : List Om} (h : Ask w p S) (c : Nat) (o : Om) {q : Option Addr} (co : Nat) (hv : Vals w q o.l) (hq : q = none → co = 0) (hof : o.fits) (hol : o.l.length ≤ 100000) (hos : o.s.size ≤ 1048576) (hsum : S.length + 1 + sumL S + o.l.length ≤ 1048576) :
    Calls Tryz.prog 75 #[.slice p S.length c, .agg #[.int .u8 o.k, .string o.s, .slice q o.l.length co, .int .i64 o.room, .int .i64 o.fn]] w (HoldR S o w) := by
  have hB := below1 w (.cells #[.int .u8 o.k, .string o.s, .slice q o.l.length co, .int .i64 o.room, .int .i64 o.fn] 96)
  have b0 := heap_alloc_new w (.cells #[.int .u8 o.k, .string o.s, .slice q o.l.length co, .int .i64 o.room, .int .i64 o.fn] 96)
  obtain ⟨⟨x0, x1, x2, x3, x4⟩, -⟩ := cell_row5 b0
  have HF := freeNumber_in (h.below hB) c o co (hv.below hB) hof.2.1 hsum
  obtain ⟨i0, hi0, hz0, hz1, hz2⟩ := info_parts infoO5
  have hlen := h.len
  go_enter Tryz.func75, Tryz.ntmps75
  go_wp2_with (first
    | (go_at_call 186; (with_reducible refine HF.mono ?_); clear HF; rintro e w1 ⟨n, rfl, hfree, hB1⟩; refine halt_here ?_))
  unfold Halted
  have hB1' := hB.trans (hB1.mono hB.size)
  have l0 := (Array.getElem?_eq_some_iff.1 b0).1
  have c0 := (hB1.block _ l0).trans b0
  have hn1 : S.length < n := hfree.1
  have hn2 : n ≤ 1048576 := Nat.le_trans hfree.2.1 hsum
  obtain ⟨ts, hmap, hts, hc⟩ := (h.below hB1').st.pos
  have htl : ts.length = S.length := by rw [← hmap]; simp
  have HC := cloneS_in (w := w1) c hc (fun x hx => by obtain ⟨q, c', h, -⟩ := hts x hx; exact ⟨q, c', h⟩) (by omega)
  rw [htl] at HC
  have HX : Hid _ := And.intro hmap (And.intro hts (And.intro htl hfree))
  clear x0 x1 x2 x3 x4 hB1 hmap hts hc htl hfree b0
  have hsub : (n : Int) - (S.length : Int) = ((n - S.length : Nat) : Int) := by omega
  have hm0 : 0 < n - S.length := by omega
  go_wp2_with (first
    | (go_at_call 187; (with_reducible refine HC.mono ?_); clear HC; rintro e w2 ⟨v2, rfl, hown2, hB2⟩; obtain ⟨p2, c2, rfl, -⟩ := own_slice hown2; have hB2' := hB1'.trans (hB2.mono hB1'.size))
    | (at_builtin; refine halt_here ?_))
  unfold Halted
  have hsumn : S.length + (n - S.length) = n := by omega
  refine wpList_append_zerosK _ rfl _ _ 23 3 rfl w1.heap.size 96 .i64 i0 (.agg #[.int .u8 0, .string ⟨#[]⟩, .slice none 0 0, .int .i64 0, .int .i64 0]) 5 64 Tryz.underlying23 Tryz.underlying3 hi0 hz0 (by decide) hz1 hz2 rfl zero_one _ S.length _ rfl hown2 (n - S.length) rfl hm0 (by rw [hsumn]; unfold maxLen; omega) (by rw [hsumn]; omega) hB2.size ?_
  rw [hsumn]
  intro v3 w3 hown3 hg3 hat3
  rw [zero_pcells, ← pcells_append] at hown3
  obtain ⟨p3, c3, rfl, -, hp3, -⟩ := own_slice hown3
  obtain ⟨g, rfl⟩ := hp3 (by omega)
  obtain ⟨hmap, hts, htl, hfree⟩ := HX.out
  have hul : (ts ++ List.replicate (n - S.length) zp).length = n := by rw [List.length_append, List.length_replicate, htl]; omega
  have hBg : Below w1.heap.size w1 w3 := hB2.trans (rbelow_grown hg3 (fun k e => (hown2.lt k e).1) hB2.size)
  have hB3' := hB1'.trans (hBg.mono hB1'.size)
  have l1 := (Array.getElem?_eq_some_iff.1 c0).1
  have d0 := (hBg.block _ l1).trans c0
  have hgb := hown3.lt g rfl
  have hul1 : (ts ++ List.replicate (n - S.length) zp)[n - 1]? = some zp := by
    rw [List.getElem?_append_right (by omega), List.getElem?_replicate, if_pos (by omega)]
  obtain ⟨y0, y1, y2, y3, y4⟩ := cell_pcells hown3 hul hul1
  have f0 := frozen_row hown3 ((n - 1) * 5)
  have f1 := frozen_row hown3 ((n - 1) * 5 + 1)
  have f2 := frozen_row hown3 ((n - 1) * 5 + 2)
  have f3 := frozen_row hown3 ((n - 1) * 5 + 3)
  have f4 := frozen_row hown3 ((n - 1) * 5 + 4)
  obtain ⟨⟨x0, x1, x2, x3, x4⟩, -⟩ := cell_row5 d0
  have hset := rowSetO hown3 hul (j := n - 1) (by omega) ⟨o, .slice q o.l.length co⟩
  have hne : w.heap.size ≠ g := by omega
  have hsub1 : (n : Int) - 1 = ((n - 1 : Nat) : Int) := by omega
  have hlt1 : ((n - 1 : Nat) : Int) < (n : Int) := by omega
  have d0' := (set5_other (W := w3) (g := g) (j := (n - 1) * 5) (.int .u8 o.k) (.string o.s) (.slice q o.l.length co) (.int .i64 o.room) (.int .i64 o.fn) hne).trans d0
  have hB4 : Below w.heap.size w (((((w3.setCell ⟨g, (n - 1) * 5, none⟩ (.int .u8 o.k)).setCell ⟨g, (n - 1) * 5 + 1, none⟩ (.string o.s)).setCell ⟨g, (n - 1) * 5 + 2, none⟩ (.slice q o.l.length co)).setCell ⟨g, (n - 1) * 5 + 3, none⟩ (.int .i64 o.room)).setCell ⟨g, (n - 1) * 5 + 4, none⟩ (.int .i64 o.fn)) := by
    have hgw : w.heap.size ≤ g := Nat.le_trans hB1'.size hgb.1
    exact below_set (below_set (below_set (below_set (below_set hB3' hgw _) hgw _) hgw _) hgw _) hgw _
  have hBw1 : Below w1.heap.size w1 (((((w3.setCell ⟨g, (n - 1) * 5, none⟩ (.int .u8 o.k)).setCell ⟨g, (n - 1) * 5 + 1, none⟩ (.string o.s)).setCell ⟨g, (n - 1) * 5 + 2, none⟩ (.slice q o.l.length co)).setCell ⟨g, (n - 1) * 5 + 3, none⟩ (.int .i64 o.room)).setCell ⟨g, (n - 1) * 5 + 4, none⟩ (.int .i64 o.fn)) := below_set (below_set (below_set (below_set (below_set hBg hgb.1 _) hgb.1 _) hgb.1 _) hgb.1 _) hgb.1 _
  dsimp only at hset
  generalize hW5 : (((((w3.setCell ⟨g, (n - 1) * 5, none⟩ (.int .u8 o.k)).setCell ⟨g, (n - 1) * 5 + 1, none⟩ (.string o.s)).setCell ⟨g, (n - 1) * 5 + 2, none⟩ (.slice q o.l.length co)).setCell ⟨g, (n - 1) * 5 + 3, none⟩ (.int .i64 o.room)).setCell ⟨g, (n - 1) * 5 + 4, none⟩ (.int .i64 o.fn)) = W5 at hset d0' hB4 hBw1
  have hall : ∀ x ∈ (ts ++ List.replicate (n - S.length) zp).set (n - 1) ⟨o, .slice q o.l.length co⟩, ∃ qq cc, x.lv = .slice qq x.o.l.length cc ∧ Vals W5 qq x.o.l ∧ (qq = none → cc = 0) := by
    intro x hx
    obtain ⟨j, hj⟩ := List.getElem?_of_mem hx
    by_cases hjn : j = n - 1
    · subst hjn
      rw [List.getElem?_set_self (by omega)] at hj
      cases hj
      exact ⟨q, co, rfl, hv.below hB4, hq⟩
    · rw [List.getElem?_set_ne (fun e => hjn e.symm)] at hj
      by_cases hjl : j < ts.length
      · rw [List.getElem?_append_left hjl] at hj
        obtain ⟨q', c', h1, h2, h3⟩ := hts x (List.mem_of_getElem? hj)
        exact ⟨q', c', h1, h2.below hBw1, h3⟩
      · rw [List.getElem?_append_right (by omega), List.getElem?_replicate] at hj
        split at hj
        · cases hj
          exact ⟨none, 0, rfl, (fun j v hj => by simp [zp, zeroO] at hj), fun _ => rfl⟩
        · cases hj
  have hst := row_isSt hset (by rw [List.length_set]; exact hul) hall
  have hwide : ((ts ++ List.replicate (n - S.length) zp).set (n - 1) ⟨o, .slice q o.l.length co⟩).map Po.o = wideS S o n := by
    unfold wideS
    have e1 : List.replicate (n - S.length) zp = List.replicate (n - S.length - 1) zp ++ [zp] := by
      rw [← List.replicate_succ', show n - S.length - 1 + 1 = n - S.length by omega]
    rw [e1, ← List.append_assoc, List.set_append_right _ _ (by rw [List.length_append, List.length_replicate, htl]; omega)]
    have e2 : n - 1 - (ts ++ List.replicate (n - S.length - 1) zp).length = 0 := by rw [List.length_append, List.length_replicate, htl]; omega
    rw [e2]
    simp [hmap, zp]
  rw [hwide] at hst
  have hwl : (wideS S o n).length = n := by unfold wideS; simp; omega
  have hask : Ask W5 (some ⟨g, 0, none⟩) (wideS S o n) := by
    have hm : ∀ x ∈ wideS S o n, x ∈ S ∨ x = zeroO ∨ x = o := fun x hx => by
      unfold wideS at hx
      rcases List.mem_append.1 hx with hx | hx
      · rcases List.mem_append.1 hx with hx | hx
        · exact .inl hx
        · exact .inr (.inl (List.mem_replicate.1 hx).2)
      · exact .inr (.inr (by simpa using hx))
    refine ⟨hst, by rw [hwl]; exact hn2, fun x hx => ?_, fun x hx => ?_, fun x hx => ?_⟩
    · rcases hm x hx with h1 | rfl | rfl
      · exact h.vals x h1
      · simp [zeroO]
      · exact hol
    · rcases hm x hx with h1 | rfl | rfl
      · exact h.str x h1
      · show (0 : Nat) ≤ 1048576; omega
      · exact hos
    · rcases hm x hx with h1 | rfl | rfl
      · exact h.fit x h1
      · exact ⟨by simp [zeroO], by simp [zeroO], by simp [zeroO], by simp [zeroO]⟩
      · exact hof
  obtain ⟨b, hb⟩ := b_of (checkP (wideS S o n) ⟨o.k, (n : Int)⟩)
  have HK := hask.check c3 ⟨o.k, (n : Int)⟩ b hb
  rw [hwl] at HK
  obtain ⟨⟨z0, z1, z2, z3, z4⟩, -⟩ := cell_row5 d0'
  have HH : Hid _ := And.intro hfree hb
  clear hall hwide hset hst hask hb hfree hts hmap hul hul1 hB3' hBg hg3 hat3 hown2 hown3 HX hsum hsub
  go_wp2_with (first
    | (go_at_call 43; (with_reducible refine HK.mono ?_); clear HK; rintro e w6 ⟨rfl, hB6⟩))
  go_ret
  exact ⟨n, b, HH.out.1, HH.out.2, rfl, hB4.trans (hB6.mono hB4.size)⟩

end Go.Proofs.YtgokofomoachaaaGreatDoor

namespace Go.Proofs.YtgokofomoachaaaGreatDoor
set_option linter.unusedVariables false
set_option linter.unusedSimpArgs false

variable {S : List Om} {o : Om} {n : Nat}

theorem wide_len (h : S.length < n) : (wideS S o n).length = n := by unfold wideS; simp; omega

theorem wide_old {j : Nat} (hj : j < S.length) : (wideS S o n)[j]? = S[j]? := by
  unfold wideS
  rw [List.append_assoc, List.getElem?_append_left hj]

theorem wide_mid (h : S.length < n) {j : Nat} (h1 : S.length ≤ j) (h2 : j < n - 1) : (wideS S o n)[j]? = some zeroO := by
  unfold wideS
  rw [List.append_assoc, List.getElem?_append_right h1, List.getElem?_append_left (by rw [List.length_replicate]; omega), List.getElem?_replicate, if_pos (by omega)]

theorem wide_new (h : S.length < n) : (wideS S o n)[n - 1]? = some o := by
  unfold wideS
  rw [List.getElem?_append_right (by rw [List.length_append, List.length_replicate]; omega)]
  have : n - 1 - (S ++ List.replicate (n - S.length - 1) zeroO).length = 0 := by rw [List.length_append, List.length_replicate]; omega
  rw [this]; rfl

theorem lead_wide (h : S.length < n) {v : Vl} (hv : ¬ (v.k = o.k ∧ v.n = n)) : leadO (wideS S o n) v = leadO S v := by
  unfold leadO
  rw [wide_len h]
  by_cases hk : 3 ≤ v.k ∧ v.k ≤ 7 ∧ 1 ≤ v.n
  · by_cases h1 : v.n ≤ S.length
    · rw [if_pos ⟨hk.1, hk.2.1, hk.2.2, by omega⟩, if_pos ⟨hk.1, hk.2.1, hk.2.2, h1⟩, wide_old (by omega)]
    · have e2 : ¬ (3 ≤ v.k ∧ v.k ≤ 7 ∧ 1 ≤ v.n ∧ v.n ≤ (S.length : Int)) := fun hh => h1 hh.2.2.2
      rw [if_neg e2]
      by_cases h2 : v.n ≤ n
      · rw [if_pos ⟨hk.1, hk.2.1, hk.2.2, h2⟩]
        by_cases h3 : v.n = n
        · rw [show (v.n - 1).toNat = n - 1 by omega, wide_new h]
          simp only
          rw [if_neg (fun e => hv ⟨e.symm, h3⟩)]
        · rw [wide_mid h (by omega) (by omega)]
          simp only
          rw [if_neg (by show ¬ (0 = v.k); omega)]
      · rw [if_neg (fun hh => h2 hh.2.2.2)]
  · rw [if_neg (fun hh => hk ⟨hh.1, hh.2.1, hh.2.2.1⟩), if_neg (fun hh => hk ⟨hh.1, hh.2.1, hh.2.2.1⟩)]

theorem lead_self (h : S.length < n) (h3 : 3 ≤ o.k) (h7 : o.k ≤ 7) : leadO (wideS S o n) ⟨o.k, n⟩ = some o := by
  unfold leadO
  rw [wide_len h, if_pos ⟨h3, h7, by show (1 : Int) ≤ n; omega, by show (n : Int) ≤ n; omega⟩]
  simp only
  rw [show ((n : Int) - 1).toNat = n - 1 by omega, wide_new h]
  simp

theorem objAt_self (h : S.length < n) : objAt (wideS S o n) n = some o := by
  unfold objAt
  rw [if_pos (by omega), show ((n : Int) - 1).toNat = n - 1 by omega, wide_new h]

theorem objAt_old {x : Int} (h1 : x ≤ S.length) : objAt (wideS S o n) x = objAt S x := by
  unfold objAt
  by_cases hx : 1 ≤ x
  · rw [if_pos hx, if_pos hx, wide_old (by omega)]
  · rw [if_neg hx, if_neg hx]

theorem objAt_le {x : Int} {y : Om} (h : objAt S x = some y) : x ≤ S.length ∧ y ∈ S := by
  unfold objAt at h
  split at h
  · have := (List.getElem?_eq_some_iff.1 h).1
    exact ⟨by omega, List.mem_of_getElem? h⟩
  · cases h

theorem reach_le {l : List Vl} {x : Int} (h : Reach S l x) : x ≤ S.length :=
  h (fun y => y ≤ S.length) (fun v hv hl => by obtain ⟨o, ho⟩ := Option.ne_none_iff_exists'.1 hl; exact (leadO_at ho).2.2.1) (fun y o hy ho v hv hl => by obtain ⟨o, ho⟩ := Option.ne_none_iff_exists'.1 hl; exact (leadO_at ho).2.2.1)

theorem reach_any {l : List Vl} {x : Int} (h : Reach S l x) : ∃ v ∈ l, Reach S [v] x :=
  h (fun y => ∃ v ∈ l, Reach S [v] y) (fun v hv hl => ⟨v, hv, Reach.root (by simp) hl⟩) (fun y o ⟨u, hu, hr⟩ ho v hv hl => ⟨u, hu, Reach.next hr ho hv hl⟩)

theorem reach_sub {l : List Vl} {u : Vl} (hu : u ∈ l) {x : Int} (h : Reach S [u] x) : Reach S l x :=
  h (fun y => Reach S l y) (fun v hv hl => by simp at hv; subst hv; exact Reach.root hu hl) (fun y o hy ho v hv hl => Reach.next hy ho hv hl)

/-- Values that do not lead to the new object. -/
def Off (o : Om) (n : Nat) (l : List Vl) : Prop := ∀ v ∈ l, ¬ (v.k = o.k ∧ v.n = n)

theorem val_wide (h : S.length < n) {v : Vl} (hv : ¬ (v.k = o.k ∧ v.n = n)) : valP (wideS S o n) v ↔ valP S v := by unfold valP; rw [lead_wide h hv]

theorem same_wide (h : S.length < n) {a b : Vl} (ha : ¬ (a.k = o.k ∧ a.n = n)) (hb : ¬ (b.k = o.k ∧ b.n = n)) : sameP (wideS S o n) a b ↔ sameP S a b := by unfold sameP; rw [lead_wide h ha, lead_wide h hb]

theorem obj_wide (h : S.length < n) {x : Om} (hx : Off o n x.l) : objP (wideS S o n) x ↔ objP S x := by
  unfold objP heldP keysP
  constructor
  · rintro ⟨h1, h2, h3⟩
    exact ⟨h1, fun v hv => ⟨(val_wide h (hx v hv)).1 (h2 v hv).1, (h2 v hv).2⟩, fun h5 i j a b ha hb hj hs => h3 h5 i j a b ha hb hj ((same_wide h (hx a (List.mem_of_getElem? ha)) (hx b (List.mem_of_getElem? hb))).2 hs)⟩
  · rintro ⟨h1, h2, h3⟩
    exact ⟨h1, fun v hv => ⟨(val_wide h (hx v hv)).2 (h2 v hv).1, (h2 v hv).2⟩, fun h5 i j a b ha hb hj hs => h3 h5 i j a b ha hb hj ((same_wide h (hx a (List.mem_of_getElem? ha)) (hx b (List.mem_of_getElem? hb))).1 hs)⟩

/-- All that values lead to may be. -/
def Cl (S : List Om) (l : List Vl) : Prop := ∀ x y, Reach S l x → objAt S x = some y → objP S y

theorem check_wide (hf : FreeP S o n) (h3 : 3 ≤ o.k) (h7 : o.k ≤ 7) : checkP (wideS S o n) ⟨o.k, n⟩ ↔ objP S o ∧ Cl S o.l := by
  have h := hf.1
  have hoff : Off o n o.l := hf.2.2.1
  have hoffS : ∀ x ∈ S, Off o n x.l := hf.2.2.2
  have hself := lead_self (S := S) (n := n) h h3 h7
  constructor
  · rintro ⟨-, hc⟩
    have hn : Reach (wideS S o n) [⟨o.k, n⟩] n := Reach.root (v := ⟨o.k, n⟩) (by simp) (by rw [hself]; simp)
    refine ⟨(obj_wide h hoff).1 (hc n o hn (objAt_self h)), fun x y hx hy => ?_⟩
    have hxw : Reach (wideS S o n) [⟨o.k, n⟩] x := hx (fun y => Reach (wideS S o n) [⟨o.k, n⟩] y)
      (fun v hv hl => Reach.next hn (objAt_self h) hv (by rw [lead_wide h (hoff v hv)]; exact hl))
      (fun y z hy hz v hv hl => Reach.next hy (by rw [objAt_old (objAt_le hz).1]; exact hz) hv (by rw [lead_wide h (hoffS z (objAt_le hz).2 v hv)]; exact hl))
    exact (obj_wide h (hoffS y (objAt_le hy).2)).1 (hc x y hxw (by rw [objAt_old (objAt_le hy).1]; exact hy))
  · rintro ⟨ho, hcl⟩
    refine ⟨⟨fun e => by simp only at e; omega, fun e => by simp only at e; omega, fun _ => by rw [hself]; simp⟩, fun x y hx hy => ?_⟩
    have key : x = (n : Int) ∨ Reach S o.l x := hx (fun y => y = (n : Int) ∨ Reach S o.l y)
      (fun v hv hl => by simp at hv; subst hv; exact .inl rfl)
      (fun y z hy hz v hv hl => by
        rcases hy with rfl | hy
        · rw [objAt_self h] at hz; cases hz
          exact .inr (Reach.root hv (by rw [← lead_wide h (hoff v hv)]; exact hl))
        · rw [objAt_old (reach_le hy)] at hz
          exact .inr (Reach.next hy hz hv (by rw [← lead_wide h (hoffS z (objAt_le hz).2 v hv)]; exact hl)))
    rcases key with rfl | hr
    · rw [objAt_self h] at hy; cases hy
      exact (obj_wide h hoff).2 ho
    · rw [objAt_old (reach_le hr)] at hy
      exact (obj_wide h (hoffS y (objAt_le hy).2)).2 (hcl x y hr hy)

theorem fine_iff {l : List Vl} : fineP S l ↔ (∀ v ∈ l, valP S v ∧ v.k ≠ 7) ∧ Cl S l := by
  constructor
  · intro h
    refine ⟨fun v hv => ⟨(h v hv).2.1, (h v hv).1⟩, fun x y hx hy => ?_⟩
    obtain ⟨v, hv, hr⟩ := reach_any hx
    exact (h v hv).2.2 x y hr hy
  · rintro ⟨h1, h2⟩ v hv
    exact ⟨(h1 v hv).2, (h1 v hv).1, fun x y hx hy => h2 x y (reach_sub hv hx) hy⟩

/-- A list's items, as an object. -/
def lstO (l : List Vl) : Om := ⟨4, ⟨#[]⟩, l, l.length, 0⟩

theorem obj_list {l : List Vl} (hl : l.length ≤ 65536) : objP S (lstO l) ↔ ∀ v ∈ l, valP S v ∧ v.k ≠ 7 := by
  have hform : formP (lstO l) := by
    refine ⟨fun e => by simp [lstO] at e, fun _ => ⟨by show (l.length : Int) ≤ 65536; omega, ⟨Int.le_refl _, by show (l.length : Int) ≤ 262144; omega⟩, rfl, rfl⟩, fun e => by simp [lstO] at e, fun e => by simp [lstO] at e, fun e => by simp [lstO] at e⟩
  unfold objP heldP
  constructor
  · rintro ⟨-, h2, -⟩ v hv
    exact ⟨(h2 v hv).1, fun e => by have := (h2 v hv).2.1 e; simp [lstO] at this⟩
  · intro h
    exact ⟨hform, fun v hv => ⟨(h v hv).1, fun e => ((h v hv).2 e).elim, fun e => by simp [lstO] at e⟩, fun e => by simp [lstO] at e⟩

theorem hold_list {l : List Vl} (hl : l.length ≤ 65536) (hf : FreeP S (lstO l) n) : checkP (wideS S (lstO l) n) ⟨4, n⟩ ↔ fineP S l := by
  rw [show (⟨4, n⟩ : Vl) = ⟨(lstO l).k, n⟩ from rfl, check_wide hf (by simp [lstO]) (by simp [lstO]), obj_list hl, fine_iff]
  exact Iff.rfl

end Go.Proofs.YtgokofomoachaaaGreatDoor

namespace Go.Proofs.YtgokofomoachaaaGreatDoor
set_option linter.unusedVariables false
set_option linter.unusedSimpArgs false
open Go.RowKit Go.Shelf

attribute [local go_sem] Oper.semAt_some

variable {w : World}

set_option maxRecDepth 20000 in
set_option maxHeartbeats 1000000 in
/-- mayHold of a list's items. -/
theorem mayHoldL_in {p : Option Addr} {S : List Om} (h : Ask w p S) (c : Nat) {l : List Vl} {q : Option Addr} (co : Nat) (hv : Vals w q l) (hq : q = none → co = 0) (hfit : ∀ v ∈ l, v.fits) (hl : l.length ≤ 65536) (hsum : S.length + 1 + sumL S + l.length ≤ 1048576) (b : Bool) (hb : b = true ↔ fineP S l) :
    Calls Tryz.prog 75 #[.slice p S.length c, .agg #[.int .u8 4, .string ⟨#[]⟩, .slice q l.length co, .int .i64 l.length, .int .i64 0]] w fun e w' => e = .returned (.bool b) ∧ Below w.heap.size w w' := by
  have H := mayHold_in h c (lstO l) co hv hq ⟨by simp [lstO], hfit, ⟨by show (-9223372036854775808 : Int) ≤ (l.length : Int); omega, by show (l.length : Int) ≤ 9223372036854775807; omega⟩, by simp [lstO], by simp [lstO]⟩ (by show l.length ≤ 100000; omega) (by show (0 : Nat) ≤ 1048576; omega) hsum
  refine Calls.mono H ?_
  rintro e w' ⟨n, b', hf, hb', rfl, hB⟩
  have e1 : b' = b := by
    have h1 := hold_list hl hf
    have : b' = true ↔ b = true := hb'.trans (h1.trans hb.symm)
    cases b' <;> cases b <;> simp at this <;> rfl
  subst e1
  exact ⟨rfl, hB⟩

/-- How often a slice of at most so many values is handed on. -/
def chunks (l : List Vl) : List Unit := if l = [] then [] else [()]

structure KpC (Bs Bn : Nat) (W W' : World) : Prop where
  bs : W'.heap[Bs]? = W.heap[Bs]?
  bn : W'.heap[Bn]? = W.heap[Bn]?

theorem KpC.trans {Bs Bn : Nat} {A B C : World} (h : KpC Bs Bn A B) (k : KpC Bs Bn B C) : KpC Bs Bn A C := ⟨k.bs.trans h.bs, k.bn.trans h.bn⟩

theorem KpC.refl (Bs Bn : Nat) (A : World) : KpC Bs Bn A A := ⟨rfl, rfl⟩

set_option maxRecDepth 100000 in
set_option maxHeartbeats 2000000 in
theorem chunk1_in (n lp Bs Bn : Nat) (hn : 1 ≤ n) {p : Option Addr} {l : List Vl} (c : Nat) (hl : l.length ≤ 65536) (hc : l.length ≤ c) (hcm : c ≤ maxLen) (hp : l ≠ [] → ∃ b0 off, p = some ⟨b0, off, none⟩) (J Jx : List Unit → World → Prop) (hJd : ∀ pre W, J pre W → J pre W.drew)
    (hY : ∀ pre x W, J pre W → pre.length < (chunks l).length → YieldAt Fence.wide (n - 1) Tryz.prog lp #[.slice p l.length l.length] W fun e W' =>
      (e = .returned (.bool true) ∧ J (pre ++ [x]) W' ∧ KpC Bs Bn W W') ∨ (e = .returned (.bool false) ∧ Jx (pre ++ [x]) W'))
    (W : World) (hBs : W.cell? ⟨Bs, 0, none⟩ = some (.slice p l.length c)) (hBn : W.cell? ⟨Bn, 0, none⟩ = some (.int .i64 65536)) (h0 : J [] W) :
    CallsIn Fence.wide n Tryz.prog 251 #[.func (.yield lp) #[] #[], .pointer (some ⟨Bs, 0, none⟩), .pointer (some ⟨Bn, 0, none⟩)] W fun e W' => (∃ v, e = .returned v) ∧
      ((∃ ys, ys = chunks l ∧ J ys W') ∨ (∃ pre, pre <+: chunks l ∧ Jx pre W')) := by
  refine callsIn_of_wp Tryz.func251 rfl trivial ?_ rfl
  simp only [Tryz.ntmps251, List.size_toArray, List.length_cons, List.length_nil, Nat.reduceAdd, Nat.reduceSub, Array.replicate_succ, Array.replicate_zero, List.push_toArray, List.append_toArray, List.nil_append, List.cons_append]
  gi_wp2
  gi_loopw [4] (fun s4 wr => ∃ pre : List Unit, ((s4 = .int .i64 0 ∧ pre = []) ∨ (s4 = .int .i64 65536 ∧ pre = [()] ∧ l ≠ [])) ∧ J pre wr ∧ KpC Bs Bn W wr) (fun s4 _ => (65536 - intOf s4).toNat)
  case atStart => exact ⟨[], .inl ⟨rfl, rfl⟩, h0, KpC.refl _ _ _⟩
  case round =>
    obtain ⟨pre, hs, hJ, hk⟩ := hrel
    have hbs : wr.cell? ⟨Bs, 0, none⟩ = some (.slice p l.length c) := (World.cell?_of_block (a := ⟨Bs, 0, none⟩) hk.bs).trans hBs
    have hbn : wr.cell? ⟨Bn, 0, none⟩ = some (.int .i64 65536) := (World.cell?_of_block (a := ⟨Bn, 0, none⟩) hk.bn).trans hBn
    by_cases hle : l = []
    · subst hle
      rcases hs with ⟨rfl, rfl⟩ | ⟨-, -, hne⟩
      · clear hp
        simp only [List.length_nil] at hbs
        gi_wp2
        go_end0
        exact ⟨⟨_, rfl⟩, .inl ⟨[], rfl, hJ⟩⟩
      · exact (hne rfl).elim
    · have hch : chunks l = [()] := by unfold chunks; rw [if_neg hle]
      obtain ⟨b0, off, rfl⟩ := hp hle
      have hpos : 0 < l.length := List.length_pos_iff.2 hle
      have HC : Hid _ := hch
      clear hch
      rcases hs with ⟨rfl, rfl⟩ | ⟨rfl, rfl, -⟩
      · have hpos' : (0 : Int) < (l.length : Int) := by omega
        obtain ⟨fn, tmps, assign, body, hy', hR⟩ := hY [] () wr.drew (hJd _ _ hJ) (by rw [HC.out]; simp)
        have hmin : min (65536 : Int) (l.length : Int) = (l.length : Int) := by omega
        gi_wp2
        gi_region
        gi_wp2
        refine hR.mono ?_
        rintro e W3 (⟨rfl, hJ3, hk3⟩ | ⟨rfl, hJx3⟩)
        · have hk4 : KpC Bs Bn W W3 := hk.trans ⟨hk3.bs, hk3.bn⟩
          have hbn3 : W3.cell? ⟨Bn, 0, none⟩ = some (.int .i64 65536) := (World.cell?_of_block (a := ⟨Bn, 0, none⟩) hk4.bn).trans hBn
          gi_wp2
          go_roundw
          case rel => exact ⟨[()], .inr ⟨rfl, rfl, hle⟩, hJ3, hk4⟩
          case measure => simp [intOf]
        · gi_wp2
          refine bodyPost_ret (results_none (by rfl) _ _ _) (by rfl) ?_
          exact ⟨⟨_, rfl⟩, .inr ⟨[()], by rw [HC.out]; exact ⟨[], by simp⟩, hJx3⟩⟩
      · have hpos' : ¬ ((65536 : Int) < (l.length : Int)) := by omega
        gi_wp2
        go_end0
        exact ⟨⟨_, rfl⟩, .inl (by rw [HC.out]; exact hJ)⟩

theorem chunk1_stops (n Bs Bn : Nat) (hn : 1 ≤ n) {p : Option Addr} {l : List Vl} (c : Nat) (hl : l.length ≤ 65536) (hc : l.length ≤ c) (hcm : c ≤ maxLen) (hp : l ≠ [] → ∃ b0 off, p = some ⟨b0, off, none⟩) (hBs : w.cell? ⟨Bs, 0, none⟩ = some (.slice p l.length c)) (hBn : w.cell? ⟨Bn, 0, none⟩ = some (.int .i64 65536)) :
    SeqStopsK Fence.wide n Tryz.prog 251 #[.pointer (some ⟨Bs, 0, none⟩), .pointer (some ⟨Bn, 0, none⟩)] (fun _ : Unit => #[.slice p l.length l.length]) (KpC Bs Bn) (fun ys => ys = chunks l) (fun pre => pre <+: chunks l) (chunks l).length w := by
  intro lp J Jx W hBl hJ hJx hY h0
  have hk : KpC Bs Bn w W := ⟨hBl.block Bs (World.block_lt_of_cell? w _ hBs), hBl.block Bn (World.block_lt_of_cell? w _ hBn)⟩
  exact chunk1_in n lp Bs Bn hn c hl hc hcm hp J Jx (fun pre W h => hJ _ _ _ none h ⟨rfl, rfl, rfl, Nat.le_refl _, fun _ _ _ => rfl⟩ (fun r e => by cases e)) hY W ((World.cell?_of_block (a := ⟨Bs, 0, none⟩) hk.bs).trans hBs) ((World.cell?_of_block (a := ⟨Bn, 0, none⟩) hk.bn).trans hBn) h0

set_option maxHeartbeats 400000 in
theorem chunk_in (p : Option Addr) (n c : Nat) (w : World) : Calls Tryz.prog 181 #[.slice p n c, .int .i64 65536] w fun e w' =>
    e = .returned (.func (.func 251) #[] #[.pointer (some ⟨w.heap.size, 0, none⟩), .pointer (some ⟨w.heap.size + 1, 0, none⟩)]) ∧ w' = (w.alloc (.cells #[.slice p n c] 47)).alloc (.cells #[.int .i64 65536] 3) := by
  go_enter Tryz.func181, Tryz.ntmps181
  go_wp2
  go_ret
  exact ⟨rfl, rfl⟩

theorem cell_new_p (w : World) (v : Value) (t : TypeId) : (w.alloc (.cells #[v] t)).cell? ⟨w.heap.size, 0, none⟩ = some v ∧ (w.alloc (.cells #[v] t)).frozen? ⟨w.heap.size, 0, none⟩ = false :=
  ⟨by rw [cell_of_row _ w.heap.size 0 _ _ _ (heap_alloc_new w _)]; rfl, frozen_of_row _ w.heap.size 0 _ _ (heap_alloc_new w _)⟩

theorem cell_alloc_p {w : World} {a : Addr} {v : Value} (o : Obj) (h : w.cell? a = some v) : (w.alloc o).cell? a = some v :=
  (World.cell?_of_block (Below.heap_alloc w o a.block (World.block_lt_of_cell? w a h))).trans h

theorem frozen_alloc_p {w : World} {a : Addr} {v : Value} (o : Obj) (h : w.cell? a = some v) (hf : w.frozen? a = false) : (w.alloc o).frozen? a = false :=
  (World.frozen?_of_block (Below.heap_alloc w o a.block (World.block_lt_of_cell? w a h))).trans hf

set_option maxRecDepth 100000 in
set_option maxHeartbeats 2000000 in
theorem mayAllBe_in {p : Option Addr} {S : List Om} (h : Ask w p S) (c : Nat) {l : List Vl} {q : Option Addr} (cq : Nat) (hv : Vals w q l) (hq : q = none → cq = 0) (hfit : ∀ v ∈ l, v.fits) (hl : l.length ≤ 65536) (hc : l.length ≤ cq) (hcm : cq ≤ maxLen) (hsum : S.length + 1 + sumL S + l.length ≤ 1048576) (b : Bool) (hb : b = true ↔ fineP S l) :
    Calls Tryz.prog 71 #[.slice p S.length c, .slice q l.length cq] w fun e w' => e = .returned (.bool b) ∧ Below w.heap.size w w' := by
  refine (callsIn_wide (n := 3)).1 ?_
  have h1 : 1 ≤ 3 := by omega
  refine callsIn_of_wp_marks Tryz.func71 rfl trivial ?_ rfl
  simp only [Tryz.ntmps71, List.size_toArray, List.length_cons, List.length_nil, Nat.reduceAdd, Nat.reduceSub, Array.replicate_succ, Array.replicate_zero, List.push_toArray, List.append_toArray, List.nil_append, List.cons_append]
  gi_wp2_with (refine ⟨trivial, ?_⟩; gi_at_call 181; refine (callsIn_wide.2 (chunk_in _ _ _ _)).mono ?_; rintro e w' ⟨rfl, rfl⟩)
  have c0 := cell_new_p w (.slice p S.length c) 23
  have c1 := cell_new_p (w.alloc (.cells #[.slice p S.length c] 23)) (.bool false) 4
  have c2 := cell_new_p ((w.alloc (.cells #[.slice p S.length c] 23)).alloc (.cells #[.bool false] 4)) (.slice q l.length cq) 47
  have c3 := cell_new_p (((w.alloc (.cells #[.slice p S.length c] 23)).alloc (.cells #[.bool false] 4)).alloc (.cells #[.slice q l.length cq] 47)) (.int .i64 65536) 3
  simp only [World.size_alloc] at c1 c2 c3
  have hB0 := below4' w (.cells #[.slice p S.length c] 23) (.cells #[.bool false] 4) (.cells #[.slice q l.length cq] 47) (.cells #[.int .i64 65536] 3)
  have hp : l ≠ [] → ∃ b0 off, q = some ⟨b0, off, none⟩ := fun hne => by
    cases l with
    | nil => exact (hne rfl).elim
    | cons u r => obtain ⟨b0, off, e, -⟩ := hv 0 u (by simp); exact ⟨b0, off, e⟩
  refine wpIn_rangeFunc_ownF rfl h1 (gf := 251) (lb := #[.pointer (some ⟨w.heap.size + 1 + 1, 0, none⟩), .pointer (some ⟨w.heap.size + 1 + 1 + 1, 0, none⟩)]) rfl trivial (enters_of Tryz.func251 (by kernel_rfl) rfl)
    (chunk1_stops 2 (w.heap.size + 1 + 1) (w.heap.size + 1 + 1 + 1) (by omega) cq hl hc hcm hp (cell_alloc_p _ c2.1) c3.1) (fun h k => h.trans k) (fun W l o o' hl _ _ _ => ⟨World.putObj_heap_other (by simp at hl; omega), World.putObj_heap_other (by simp at hl; omega)⟩) (Below.refl _ _) (fun _ => rfl)
    (fun pre W => (((pre = [] ∨ b = true) ∧ w.heap.size + 4 ≤ W.heap.size) ∧ W.cell? ⟨w.heap.size, 0, none⟩ = some (.slice p S.length c) ∧ W.cell? ⟨w.heap.size + 1, 0, none⟩ = some (.bool false) ∧ W.frozen? ⟨w.heap.size + 1, 0, none⟩ = false) ∧ Below w.heap.size w W)
    (fun cc pre W => (cc = .ret ∧ b = false ∧ W.cell? ⟨w.heap.size + 1, 0, none⟩ = some (.bool false)) ∧ Below w.heap.size w W)
    (OwnFrom.and (Own.from (fun s A B row hs hg hr => ⟨⟨hs.1.1, Nat.le_trans hs.1.2 hg.size⟩, cell_kept hs.2.1 hg hr, cell_kept hs.2.2.1 hg hr, (frozen_kept hs.2.2.1 hg hr).trans hs.2.2.2⟩) _) (ownFrom_below (Nat.le_refl _) (by simp; omega)))
    (fun cc => OwnFrom.and (Own.from (fun s A B row hs hg hr => ⟨hs.1, hs.2.1, cell_kept hs.2.2 hg hr⟩) _) (ownFrom_below (Nat.le_refl _) (by simp; omega)))
    ⟨⟨⟨.inl rfl, by simp⟩, cell_alloc_p _ (cell_alloc_p _ (cell_alloc_p _ c0.1)), cell_alloc_p _ (cell_alloc_p _ c1.1), frozen_alloc_p _ (cell_alloc_p _ c1.1) (frozen_alloc_p _ c1.1 c1.2)⟩, hB0⟩
    (fun x => { tmps := #[.slice p S.length c, .slice q l.length cq, .pointer (some ⟨w.heap.size, 0, none⟩), undef, .pointer (some ⟨w.heap.size + 1, 0, none⟩), .slice q l.length l.length, .slice q l.length cq, .func (.func 251) #[] #[.pointer (some ⟨w.heap.size + 1 + 1, 0, none⟩), .pointer (some ⟨w.heap.size + 1 + 1 + 1, 0, none⟩)], .slice q l.length l.length, undef, undef, undef, undef, undef, undef, undef], defers := [] }) ?assign ?body ?done ?stop
  case assign =>
    intro l x W K hK
    gi_wp2
    exact hK
  case body =>
    rintro lp pre x W ⟨⟨⟨hp', hW4⟩, hcs, hcr, hfr⟩, hB⟩ hlen'
    have hlne : l ≠ [] := fun e => by rw [e] at hlen'; simp [chunks] at hlen'
    have HM := mayHoldL_in (h.below hB) c (q := q) l.length (hv.below hB) (fun e => by obtain ⟨b0, off, e2⟩ := hp hlne; rw [e] at e2; cases e2) hfit hl hsum b hb
    have hz := hB.size
    have hl0 := World.block_lt_of_cell? W _ hcs
    have hl1 := World.block_lt_of_cell? W _ hcr
    clear hb h hv hfit hp hlne hlen' hp'
    cases b with
    | true =>
      gi_wp2_with (refine ⟨trivial, ?_⟩; gi_at_call 75; refine (callsIn_wide.2 HM).mono ?_; clear HM; rintro e w2 ⟨rfl, hB2⟩)
      refine ⟨⟨hB2.size, fun k o hk _ => (hB2.block k (Array.getElem?_eq_some_iff.1 hk).1).trans hk⟩, ⟨hB2.block _ (by omega), hB2.block _ (by omega)⟩, ⟨Nat.le_trans hW4 hB2.size, (hB2.cell hl0).trans hcs, (hB2.cell hl1).trans hcr, (World.frozen?_of_block (a := ⟨w.heap.size + 1, 0, none⟩) (hB2.block _ hl1)).trans hfr⟩, hB.trans (hB2.mono hz)⟩
    | false =>
      gi_wp2_with (refine ⟨trivial, ?_⟩; gi_at_call 75; refine (callsIn_wide.2 HM).mono ?_; clear HM; rintro e w2 ⟨rfl, hB2⟩; have hcr2 := (hB2.cell hl1).trans hcr; have hfr2 := (World.frozen?_of_block (a := ⟨w.heap.size + 1, 0, none⟩) (hB2.block _ hl1)).trans hfr)
      exact ⟨(show KeepsOthers W w2 from ⟨hB2.size, fun k o hk _ => (hB2.block k (Array.getElem?_eq_some_iff.1 hk).1).trans hk⟩).trans (KeepsOthers.setCell _ _ _), ⟨rfl, World.cell?_setCell_same' _ _ _ (by rw [hcr2]; rfl)⟩, (hB.trans (hB2.mono hz)).setCell (p := ⟨w.heap.size + 1, 0, none⟩) (by simp) _⟩
  case done =>
    rintro D ys W hD rfl ⟨⟨⟨hne, _⟩, _, hcr, hfr⟩, hB⟩ hK
    have hbt : b = true := by
      rcases hne with hne | hne
      · have hle : l = [] := by
          cases l with
          | nil => rfl
          | cons u r => simp [chunks] at hne
        exact hb.2 (by rw [hle]; intro v hv; cases hv)
      · exact hne
    subst hbt
    clear hb
    gi_wp2
    have hK' := (KeepsOthers.setCell W ⟨w.heap.size + 1, 0, none⟩ (.bool true)).same D _ hK rfl
    refine ⟨by simp, .inl ⟨_, _, rfl, run_takeDeferred hK', ?_⟩⟩
    have hc5 := cell_kept (World.cell?_setCell_same' W ⟨w.heap.size + 1, 0, none⟩ (.bool true) (by rw [hcr]; rfl)) (grownBy_putObj' _ D (.deferred none)) (fun r e => by cases e; exact ⟨_, hK', rfl⟩)
    refine ⟨.bool true, ?_, rfl, (hB.setCell (p := ⟨w.heap.size + 1, 0, none⟩) (by simp) _).trans ⟨rfl, rfl, rfl, by simp, fun k hk => World.putObj_heap_other (by simp at hD; omega)⟩⟩
    simp [results, Tryz.f71, go_sem, hc5]
  case stop =>
    rintro D cc pre W hD hpre ⟨⟨rfl, hbf, hcr⟩, hB⟩ hK
    subst hbf
    clear hb
    gi_wp2
    refine ⟨by simp, .inl ⟨_, _, rfl, run_takeDeferred hK, ?_⟩⟩
    have hc5 := cell_kept hcr (grownBy_putObj' _ D (.deferred none)) (fun r e => by cases e; exact ⟨_, hK, rfl⟩)
    refine ⟨.bool false, ?_, rfl, hB.trans ⟨rfl, rfl, rfl, by simp, fun k hk => World.putObj_heap_other (by simp at hD; omega)⟩⟩
    simp [results, Tryz.f71, go_sem, hc5]

end Go.Proofs.YtgokofomoachaaaGreatDoor

namespace Go.Proofs.YtgokofomoachaaaGreatDoor
set_option linter.unusedVariables false
set_option linter.unusedSimpArgs false
open Go.RowKit

variable {w : World}

/-- What List comes to. -/
def ListR (S : List Om) (l : List Vl) (d : Dv) : Prop := (¬ fineP S l ∧ d = refD S) ∨ (fineP S l ∧ d = ⟨S ++ [lstO l], ⟨4, (S.length : Int) + 1⟩, ⟨#[]⟩, (wordsO (lstO l) : Nat)⟩)

set_option maxRecDepth 20000 in
set_option maxHeartbeats 2000000 in
theorem List_pl {l : List Vl} {q : Option Addr} (cq : Nat) (hv : Vals w q l) (hq : q = none → cq = 0) (hl : l.length ≤ 65536) (h7 : ∀ v ∈ l, v.k ≠ 7) {d : Dd} (hd : d = makesD (lstO l)) :
    Calls Tryz.prog 72 #[.slice q l.length cq] w (DeedV w d) := by
  have hB := below1 w (.cells #[.string ⟨#[]⟩, .int .i64 0, .int .u8 0, .int .i64 0, .int .u8 0, .string ⟨#[]⟩, .slice none 0 0, .int .i64 0, .int .i64 0, .int .i64 0, .int .i64 0, .slice none 0 0, .int .i64 0] 100)
  have hb := heap_alloc_new w (.cells #[.string ⟨#[]⟩, .int .i64 0, .int .u8 0, .int .i64 0, .int .u8 0, .string ⟨#[]⟩, .slice none 0 0, .int .i64 0, .int .i64 0, .int .i64 0, .int .i64 0, .slice none 0 0, .int .i64 0] 100)
  have HA := anyCell_in cq (hv.below hB) (by omega) false ⟨(fun e => by cases e), (fun ⟨v, hv, h⟩ => (h7 v hv h).elim)⟩
  have HK := fun (W : World) (hBw : Below w.heap.size w W) => mk_in (w := W) (lstO l) (q := q) cq (hv.below hBw) hq (by show l.length ≤ 100000; omega) (by show (0 : Nat) ≤ 1048576; omega) (by show (l.length : Int) ≤ 1099511627776; omega) (by simp [lstO]) (by simp [lstO])
  simp only [show (lstO l).k = 4 from rfl, show (lstO l).s = ⟨#[]⟩ from rfl, show (lstO l).l = l from rfl, show (lstO l).room = (l.length : Int) from rfl, show (lstO l).fn = 0 from rfl, show ((4 : Nat) : Int) = 4 from rfl] at HK
  have hl' : ¬ ((65536 : Int) < (l.length : Int)) := by omega
  have HD : Hid _ := And.intro hd hv
  clear hd h7 hv
  go_enter Tryz.func72, Tryz.ntmps72
  go_wp2_with (first
    | (go_at_call 174; (with_reducible refine HA.mono ?_); clear HA; rintro e w0 ⟨rfl, hB0⟩; have hBw := hB.trans (hB0.mono hB.size); have hb' := (hB0.block _ (Array.getElem?_eq_some_iff.1 hb).1).trans hb; have HK1 := HK w0 hBw)
    | (go_at_call 180; (with_reducible refine HK1.mono ?_); clear HK1; rintro e w1 ⟨rfl, hB1⟩; have hr := (hB1.block _ (Array.getElem?_eq_some_iff.1 hb').1).trans hb'; obtain ⟨⟨z0, z1, z2, z3, z4, z5, z6, z7, z8, z9, z10, z11, z12⟩, y0, y1, y2, y3, y4, y5, y6, y7, y8, y9, y10, y11, y12⟩ := cell_row13 hr))
  refine bodyPost_ret (results_cell_row (by rfl) _ _ w.heap.size 100 _ _ _ (by rfl) (set13_row hr) Tryz.underlying100 (by rfl) infoDeed) (by rfl) ?_
  have hBB : Below w.heap.size w w1 := hBw.trans (hB1.mono hBw.size)
  have hBF := below_set13 hBB (g := w.heap.size) (Nat.le_refl _) (.string ⟨#[]⟩) (.int .i64 (wordsO (lstO l) : Nat)) (.int .u8 0) (.int .i64 0) (.int .u8 4) (.string ⟨#[]⟩) (.slice q l.length cq) (.int .i64 (l.length : Int)) (.int .i64 0) (.int .i64 0) (.int .i64 0) (.slice none 0 0) (.int .i64 0)
  rw [HD.out.1]
  exact ⟨q, cq, none, rfl, HD.out.2.below hBF, (fun j v hj => by simp [makesD] at hj), hBF⟩

set_option maxRecDepth 20000 in
set_option maxHeartbeats 2000000 in
theorem pList_in {p : Option Addr} {S : List Om} (h : Ask w p S) (c : Nat) {l : List Vl} {q : Option Addr} (cq : Nat) (hv : Vals w q l) (hq : q = none → cq = 0) (hfit : ∀ v ∈ l, v.fits) (hl : l.length ≤ 65536) (hc : l.length ≤ cq) (hcm : cq ≤ maxLen) (hsum : S.length + 1 + sumL S + l.length ≤ 1048576) {D : Dv}
    (hD : (¬ fineP S l ∧ D = refD S) ∨ (fineP S l ∧ ∃ d, DoneR S d D ∧ ∀ W, Below w.heap.size w W → Calls Tryz.prog 72 #[.slice q l.length cq] W (DeedV W d))) :
    Calls Tryz.prog 29 #[.slice p S.length c, .slice q l.length cq] w (DidR w D.S D.v D.t D.n) := by
  have hB := below1 w (.cells #[.slice none 0 0, .int .u8 0, .int .i64 0, .string ⟨#[]⟩, .int .i64 0] 33)
  have hb := heap_alloc_new w (.cells #[.slice none 0 0, .int .u8 0, .int .i64 0, .string ⟨#[]⟩, .int .i64 0] 33)
  obtain ⟨bf, hbf⟩ := b_of (fineP S l)
  have HM := mayAllBe_in (h.below hB) c cq (hv.below hB) hq hfit hl hc hcm hsum bf hbf
  have HD : Hid _ := hD
  clear hD
  go_enter Tryz.func29, Tryz.ntmps29
  go_wp2_with (first
    | (go_at_call 71; (with_reducible refine HM.mono ?_); clear HM; rintro e w1 ⟨rfl, hB1⟩; refine halt_here ?_))
  unfold Halted
  have hBw := hB.trans (hB1.mono hB.size)
  have e0 := (hB1.block _ (Array.getElem?_eq_some_iff.1 hb).1).trans hb
  have l0 := (Array.getElem?_eq_some_iff.1 e0).1
  cases bf with
  | false =>
    have hde : D = refD S := by
      rcases HD.out with ⟨-, hh⟩ | ⟨hf, -⟩
      · exact hh
      · have := hbf.2 hf; cases this
    clear HD hbf
    have HT := refused_in (h.below hBw) c hde
    clear hde
    go_wp2_with (first
      | (go_at_call 50; (with_reducible refine HT.mono ?_); clear HT; rintro e w2 ⟨p1, c1, rfl, hts, hB2⟩; have hr := (hB2.block _ l0).trans e0; obtain ⟨⟨z0, z1, z2, z3, z4⟩, s0, s1, s2, s3, s4⟩ := cell_row5 hr))
    refine bodyPost_ret (results_cell_row (by rfl) _ _ w.heap.size 33 _ _ _ (by rfl) (set5_row hr) Tryz.underlying33 (by rfl) infoDid) (by rfl) ?_
    exact did_fin hr (by omega) (hts_mono hts hBw.size) (hBw.trans (hB2.mono hBw.size)) D.v D.t D.n
  | true =>
    obtain ⟨d, hdone, HP⟩ : ∃ d, DoneR S d D ∧ ∀ W, Below w.heap.size w W → Calls Tryz.prog 72 #[.slice q l.length cq] W (DeedV W d) := by
      rcases HD.out with ⟨hn, -⟩ | ⟨-, hh⟩
      · exact (hn (hbf.1 rfl)).elim
      · exact hh
    clear HD hbf
    have HP1 := HP w1 hBw
    clear HP
    have HDN : Hid _ := hdone
    clear hdone
    go_wp2_with (first
      | (go_at_call 72; (with_reducible refine HP1.mono ?_); clear HP1; rintro e w2 ⟨q9, c_, q2, rfl, hv1, hv2, hB2⟩; refine halt_here ?_))
    unfold Halted
    have hBw2 := hBw.trans (hB2.mono hBw.size)
    have HE := did_in (h.below hBw2) c d HDN.out (cq := c_) hv1 hv2
    have f0 := (hB2.block _ l0).trans e0
    clear hv1 hv2
    go_wp2_with (first
      | (go_at_call 51; (with_reducible refine HE.mono ?_); clear HE; rintro e w3 ⟨p1, c1, rfl, hts, hB3⟩; have hr := (hB3.block _ (Array.getElem?_eq_some_iff.1 f0).1).trans f0; obtain ⟨⟨z0, z1, z2, z3, z4⟩, s0, s1, s2, s3, s4⟩ := cell_row5 hr))
    refine bodyPost_ret (results_cell_row (by rfl) _ _ w.heap.size 33 _ _ _ (by rfl) (set5_row hr) Tryz.underlying33 (by rfl) infoDid) (by rfl) ?_
    exact did_fin hr (by omega) (hts_mono hts hBw2.size) (hBw2.trans (hB3.mono hBw2.size)) D.v D.t D.n

set_option maxRecDepth 20000 in
set_option maxHeartbeats 2000000 in
theorem pMap_in {p : Option Addr} {S : List Om} (h : Ask w p S) (c : Nat) {l : List Vl} {q : Option Addr} (cq : Nat) (hv : Vals w q l) (hq : q = none → cq = 0) (hfit : ∀ v ∈ l, v.fits) (hl : l.length ≤ 65536) (hc : l.length ≤ cq) (hcm : cq ≤ maxLen) (hsum : S.length + 1 + sumL S + l.length ≤ 1048576) {D : Dv}
    (hD : (¬ fineP S l ∧ D = refD S) ∨ (fineP S l ∧ ∃ d, DoneR S d D ∧ ∀ W, Below w.heap.size w W → Calls Tryz.prog 73 #[.slice p S.length c, .slice q l.length cq] W (DeedV W d))) :
    Calls Tryz.prog 30 #[.slice p S.length c, .slice q l.length cq] w (DidR w D.S D.v D.t D.n) := by
  have hB := below1 w (.cells #[.slice none 0 0, .int .u8 0, .int .i64 0, .string ⟨#[]⟩, .int .i64 0] 33)
  have hb := heap_alloc_new w (.cells #[.slice none 0 0, .int .u8 0, .int .i64 0, .string ⟨#[]⟩, .int .i64 0] 33)
  obtain ⟨bf, hbf⟩ := b_of (fineP S l)
  have HM := mayAllBe_in (h.below hB) c cq (hv.below hB) hq hfit hl hc hcm hsum bf hbf
  have HD : Hid _ := hD
  clear hD
  go_enter Tryz.func30, Tryz.ntmps30
  go_wp2_with (first
    | (go_at_call 71; (with_reducible refine HM.mono ?_); clear HM; rintro e w1 ⟨rfl, hB1⟩; refine halt_here ?_))
  unfold Halted
  have hBw := hB.trans (hB1.mono hB.size)
  have e0 := (hB1.block _ (Array.getElem?_eq_some_iff.1 hb).1).trans hb
  have l0 := (Array.getElem?_eq_some_iff.1 e0).1
  cases bf with
  | false =>
    have hde : D = refD S := by
      rcases HD.out with ⟨-, hh⟩ | ⟨hf, -⟩
      · exact hh
      · have := hbf.2 hf; cases this
    clear HD hbf
    have HT := refused_in (h.below hBw) c hde
    clear hde
    go_wp2_with (first
      | (go_at_call 50; (with_reducible refine HT.mono ?_); clear HT; rintro e w2 ⟨p1, c1, rfl, hts, hB2⟩; have hr := (hB2.block _ l0).trans e0; obtain ⟨⟨z0, z1, z2, z3, z4⟩, s0, s1, s2, s3, s4⟩ := cell_row5 hr))
    refine bodyPost_ret (results_cell_row (by rfl) _ _ w.heap.size 33 _ _ _ (by rfl) (set5_row hr) Tryz.underlying33 (by rfl) infoDid) (by rfl) ?_
    exact did_fin hr (by omega) (hts_mono hts hBw.size) (hBw.trans (hB2.mono hBw.size)) D.v D.t D.n
  | true =>
    obtain ⟨d, hdone, HP⟩ : ∃ d, DoneR S d D ∧ ∀ W, Below w.heap.size w W → Calls Tryz.prog 73 #[.slice p S.length c, .slice q l.length cq] W (DeedV W d) := by
      rcases HD.out with ⟨hn, -⟩ | ⟨-, hh⟩
      · exact (hn (hbf.1 rfl)).elim
      · exact hh
    clear HD hbf
    have HP1 := HP w1 hBw
    clear HP
    have HDN : Hid _ := hdone
    clear hdone
    go_wp2_with (first
      | (go_at_call 73; (with_reducible refine HP1.mono ?_); clear HP1; rintro e w2 ⟨q9, c_, q2, rfl, hv1, hv2, hB2⟩; refine halt_here ?_))
    unfold Halted
    have hBw2 := hBw.trans (hB2.mono hBw.size)
    have HE := did_in (h.below hBw2) c d HDN.out (cq := c_) hv1 hv2
    have f0 := (hB2.block _ l0).trans e0
    clear hv1 hv2
    go_wp2_with (first
      | (go_at_call 51; (with_reducible refine HE.mono ?_); clear HE; rintro e w3 ⟨p1, c1, rfl, hts, hB3⟩; have hr := (hB3.block _ (Array.getElem?_eq_some_iff.1 f0).1).trans f0; obtain ⟨⟨z0, z1, z2, z3, z4⟩, s0, s1, s2, s3, s4⟩ := cell_row5 hr))
    refine bodyPost_ret (results_cell_row (by rfl) _ _ w.heap.size 33 _ _ _ (by rfl) (set5_row hr) Tryz.underlying33 (by rfl) infoDid) (by rfl) ?_
    exact did_fin hr (by omega) (hts_mono hts hBw2.size) (hBw2.trans (hB3.mono hBw2.size)) D.v D.t D.n

theorem List_in {p : Option Addr} {S : List Om} (h : Ask w p S) (c : Nat) {l : List Vl} {q : Option Addr} (cq : Nat) (hv : Vals w q l) (hq : q = none → cq = 0) (hfit : ∀ v ∈ l, v.fits) (hl : l.length ≤ 65536) (hc : l.length ≤ cq) (hcm : cq ≤ maxLen) (hsum : S.length + 1 + sumL S + l.length ≤ 1048576) (d : Dv) (hd : ListR S l d) :
    Calls Tryz.prog 29 #[.slice p S.length c, .slice q l.length cq] w (DidR w d.S d.v d.t d.n) := by
  refine pList_in h c cq hv hq hfit hl hc hcm hsum ?_
  rcases hd with hd | ⟨hf, hd⟩
  · exact .inl hd
  · exact .inr ⟨hf, makesD (lstO l), by rw [hd]; exact DoneR.new (d := makesD (lstO l)) (by simp [makesD, lstO]) rfl (by show l.length ≤ 1000000; omega) (by show (0 : Nat) ≤ 1048576; omega), fun W hB => List_pl cq (hv.below hB) hq hl (fun v hv => (hf v hv).1) rfl⟩


end Go.Proofs.YtgokofomoachaaaGreatDoor
