/- prim: freeNumber. -/
import Derived.Test.YtgokofomoachaabPnOps
import Derived.Test.YtgokofomoachaabShTour
import Derived.Laws.EntriesVeiled
namespace Go.Proofs.Ytgokofomoachaab
set_option linter.unusedVariables false
set_option linter.unusedSimpArgs false
open Go.RowKit Go.Maps

variable {w : World}

/-- What changes but a map. -/
structure MStep (bM : Nat) (w w' : World) : Prop where
  os : w'.os = w.os
  tape : w'.tape = w.tape
  output : w'.output = w.output
  size : w.heap.size ≤ w'.heap.size
  block : ∀ k, k < w.heap.size → k ≠ bM → w'.heap[k]? = w.heap[k]?

theorem MStep.refl (bM : Nat) (w : World) : MStep bM w w := ⟨rfl, rfl, rfl, Nat.le_refl _, fun _ _ _ => rfl⟩

theorem MStep.trans {bM : Nat} {a b c : World} (h : MStep bM a b) (g : MStep bM b c) : MStep bM a c :=
  ⟨g.os.trans h.os, g.tape.trans h.tape, g.output.trans h.output, Nat.le_trans h.size g.size, fun k hk hn => (g.block k (Nat.lt_of_lt_of_le hk h.size) hn).trans (h.block k hk hn)⟩

theorem MStep.alloc {bM : Nat} {a b : World} (h : MStep bM a b) (o : Obj) : MStep bM a (b.alloc o) :=
  ⟨h.os, h.tape, h.output, by have := h.size; simp; omega, fun k hk hn => (Below.heap_alloc b o k (Nat.lt_of_lt_of_le hk h.size)).trans (h.block k hk hn)⟩

theorem MStep.below {bM n : Nat} {a b : World} (h : MStep bM a b) (hn : n ≤ bM) (hs : n ≤ a.heap.size) : Below n a b := ⟨h.os, h.tape, h.output, h.size, fun k hk => h.block k (by omega) (by omega)⟩

theorem MStep.cell {bM : Nat} {a b : World} (h : MStep bM a b) {x : Addr} {v : Value} (hx : a.cell? x = some v) (hn : x.block ≠ bM) : b.cell? x = some v :=
  (World.cell?_of_block (h.block x.block (World.block_lt_of_cell? a x hx) hn)).trans hx

theorem IsCnt.count {bM K : Nat} {cnt : Int → Nat} (h : IsCnt w bM K cnt) (x : Int) (hx : -9223372036854775808 ≤ x ∧ x ≤ 9223372036854775807) (hK : K < maxLen) (hK2 : K ≤ 1099511627776) :
    ∃ w2, (Instr.mapUpdate 109 (.map (some bM)) (.int .i64 x) (.int .i64 ((cnt x : Nat) + 1))).run Try.prog w = .ok () w2 ∧ IsCnt w2 bM (K + 1) (fun y => if y = x then cnt y + 1 else cnt y) ∧ MStep bM w w2 := by
  obtain ⟨D, g1, g2⟩ := h
  have hkey : keyOf Try.prog 2 (.int .i64 x) = some (.int .i64 x) := keyOf_int_mk Try.underlying2 (wfI hx)
  obtain ⟨w2, hrun, hown, hgrow⟩ := g1.update lawI Try.underlying109 hK hkey (val := .int .i64 ((cnt x : Nat) + 1)) (plainElem_int Try.underlying3 (wfI (by have := (g2 x).2; omega)))
  have hbl : ∀ k, k < w.heap.size → k ≠ bM → w2.heap[k]? = w.heap[k]? := fun k hk hne => hgrow.block k hk (fun e => hne (by simpa using e))
  have hms := g1.isMap
  refine ⟨w2, hrun, ⟨_, hown, fun y => ?_⟩, ⟨hgrow.os, hgrow.tape, hgrow.output, hgrow.size, hbl⟩⟩
  by_cases hy : y = x
  · subst hy
    rw [atKey_put_same hms (by simp [WideAt.IsKeyLit])]
    have := (g2 y).2
    simp; omega
  · have hk : (Lit.int .i64 y) ≠ Lit.int .i64 x := by
      intro e
      injection e with _ e
      exact hy e
    rw [atKey_put_other hk, (g2 y).1]
    have := (g2 y).2
    simp [hy]; omega

/-- The numbers that values of a kind have, above a number. -/
def tk (k : Nat) (n : Int) (l : List Vl) : List Int := (l.filter (fun v => decide (v.k = k ∧ n < v.n))).map Vl.n

theorem count_snoc (T : List Int) (x : Int) : (fun y => if y = x then T.count y + 1 else T.count y) = fun y => (T ++ [x]).count y := by
  funext y
  rw [List.count_append]
  by_cases h : y = x
  · subst h; simp
  · have : List.count y [x] = 0 := by simp [List.count_cons]; exact fun e => h e.symm
    rw [if_neg h, this]; rfl

set_option maxRecDepth 20000 in
set_option maxHeartbeats 2000000 in
theorem take_in {Bo Bs Bt bM K : Nat} {k : Nat} {b1 b2 b3 b4 : Value} {p : Option Addr} {n c : Nat} {T : List Int} (hBo : w.heap[Bo]? = some (.cells #[.int .u8 k, b1, b2, b3, b4] 46 (0, 0))) (hBs : w.heap[Bs]? = some (.cells #[.slice p n c] 25 (0, 0))) (hBt : w.heap[Bt]? = some (.cells #[.map (some bM)] 109 (0, 0)))
    (hc : IsCnt w bM K (fun x => T.count x)) {q : Option Addr} {l : List Vl} (cq : Nat) (hv : Vals w q l) (hfit : ∀ v ∈ l, v.fits) (hK : K + l.length ≤ 1099511627776) :
    Calls Try.prog 72 #[.slice q l.length cq, .pointer (some ⟨Bo, 0, none⟩), .pointer (some ⟨Bs, 0, none⟩), .pointer (some ⟨Bt, 0, none⟩)] w fun e w' => e = .returned (.tuple #[]) ∧ IsCnt w' bM (K + l.length) (fun x => (T ++ tk k n l).count x) ∧ MStep bM w w' := by
  have hoM := hc.other hBo
  have hsM := hc.other hBs
  have htM := hc.other hBt
  have hMl := hc.lt
  have lo := (Array.getElem?_eq_some_iff.1 hBo).1
  have ls := (Array.getElem?_eq_some_iff.1 hBs).1
  have lt := (Array.getElem?_eq_some_iff.1 hBt).1
  go_enter Try.func72, Try.ntmps72
  go_wp2
  go_loopw [9] (fun s9 wr => ∃ (pre rest : List Vl), l = pre ++ rest ∧ s9 = .int .i64 pre.length ∧ IsCnt wr bM (K + pre.length) (fun x => (T ++ tk k n pre).count x) ∧ MStep bM w wr) (fun s9 _ => l.length - (intOf s9).toNat)
  case atStart => exact ⟨[], l, rfl, rfl, by simpa [tk] using hc, MStep.refl _ _⟩
  case round =>
    obtain ⟨pre, rest, hR, rfl, hC, hS⟩ := hrel
    have hz := hS.size
    cases rest with
    | nil =>
      have hR' : l = pre := by simpa using hR
      have hq : ¬ ((pre.length : Int) < (l.length : Int)) := by rw [hR']; omega
      have HR : Hid _ := hR'
      clear hR hR'
      go_wp2
      go_end0
      refine ⟨rfl, ?_, hS⟩
      rw [HR.out]
      have := hC
      simp only [List.count_append] at this ⊢
      exact this
    | cons v rest =>
      have hvl : l[pre.length]? = some v := by rw [hR]; simp
      have hlt : pre.length < l.length := by rw [hR]; simp
      have hlt' : (pre.length : Int) < (l.length : Int) := by omega
      have hvf := hfit v (by rw [hR]; simp)
      obtain ⟨b0, off, rfl, c0, c1⟩ := hv pre.length v hvl
      have hb0M : b0 ≠ bM := by
        rintro rfl
        obtain ⟨es, cl, h1⟩ := hc.isMap
        rw [show w.cell? ⟨b0, off + pre.length * 2, none⟩ = none by simp [World.cell?, h1]] at c0
        cases c0
      have d0 := hS.cell c0 hb0M
      have d1 := hS.cell c1 hb0M
      have eo := (hS.block Bo lo hoM).trans hBo
      have es := (hS.block Bs ls hsM).trans hBs
      have et := (hS.block Bt lt htM).trans hBt
      have hA := below1 wr (.cells #[.int .u8 v.k, .int .i64 v.n] 28)
      obtain ⟨x0, x1⟩ := cell_row2 (heap_alloc_new wr (.cells #[.int .u8 v.k, .int .i64 v.n] 28))
      obtain ⟨⟨o0, -, -, -, -⟩, -⟩ := cell_row5 ((hA.block _ (Array.getElem?_eq_some_iff.1 eo).1).trans eo)
      obtain ⟨s0, -⟩ := cell_row1 ((hA.block _ (Array.getElem?_eq_some_iff.1 es).1).trans es)
      obtain ⟨t0, -⟩ := cell_row1 ((hA.block _ (Array.getElem?_eq_some_iff.1 et).1).trans et)
      have hC1 := hC.kept (w' := wr.alloc (.cells #[.int .u8 v.k, .int .i64 v.n] 28)) (hA.block _ hC.lt)
      have hS1 := hS.alloc (.cells #[.int .u8 v.k, .int .i64 v.n] 28)
      have e1 : (((pre ++ [v]).length : Nat) : Int) = pre.length + 1 := by simp
      have HR : Hid _ := hR
      clear hR hvl hv hfit
      by_cases hk : v.k = k
      · by_cases hn : (n : Int) < v.n
        · have etk : tk k n (pre ++ [v]) = tk k n pre ++ [v.n] := by unfold tk; rw [List.filter_append]; simp [hk, hn]
          have hlook := hC1.look v.n hvf.2
          obtain ⟨w3, hrun, hC3, hS3⟩ := hC1.count v.n hvf.2 (by unfold maxLen; omega) (by omega)
          have hcle : (T ++ tk k n pre).count v.n ≤ K + pre.length := by obtain ⟨D, -, g2⟩ := hC1; exact (g2 v.n).2
          generalize (T ++ tk k n pre).count v.n = cv at hlook hrun hcle
          subst hk
          have HE : Hid _ := etk
          clear etk
          go_wp2
          go_roundw
          case rel =>
            refine ⟨pre ++ [v], rest, by have := HR.out; simpa using this, by rw [e1], ?_, hS1.trans hS3⟩
            rw [HE.out, ← List.append_assoc]
            have := hC3
            rw [count_snoc] at this
            simpa [Nat.add_assoc] using this
          case measure => simp [intOf]; omega
        · have etk : tk k n (pre ++ [v]) = tk k n pre := by unfold tk; rw [List.filter_append]; simp [hn]
          subst hk
          have HE : Hid _ := etk
          clear etk
          go_wp2
          go_roundw
          case rel =>
            refine ⟨pre ++ [v], rest, by have := HR.out; simpa using this, by rw [e1], ?_, hS1⟩
            rw [HE.out]
            exact hC1.more (by simp)
          case measure => simp [intOf]; omega
      · have etk : tk k n (pre ++ [v]) = tk k n pre := by unfold tk; rw [List.filter_append]; simp [hk]
        have hk' : ((v.k : Int) == (k : Int)) = false := by simp; omega
        have hkn : ¬ ((v.k : Int) = (k : Int)) := by omega
        have HE : Hid _ := etk
        clear etk
        go_wp2
        go_roundw
        case rel =>
          refine ⟨pre ++ [v], rest, by have := HR.out; simpa using this, by rw [e1], ?_, hS1⟩
          rw [HE.out]
          exact hC1.more (by simp)
        case measure => simp [intOf]; omega

/-- All numbers that are taken. -/
def tkS (k : Nat) (n : Int) (S : List Om) : List Int := (S.map (fun x => tk k n x.l)).flatten

theorem tkS_snoc (k : Nat) (n : Int) (S : List Om) (x : Om) : tkS k n (S ++ [x]) = tkS k n S ++ tk k n x.l := by simp [tkS]

theorem tk_len (k : Nat) (n : Int) (l : List Vl) : (tk k n l).length ≤ l.length := by unfold tk; rw [List.length_map]; exact List.length_filter_le _ _

theorem tkS_len (k : Nat) (n : Int) : ∀ S : List Om, (tkS k n S).length ≤ sumL S
  | [] => by simp [tkS]
  | x :: r => by
    have h1 := tkS_len k n r
    have h2 := tk_len k n x.l
    simp only [tkS, sumL, List.map_cons, List.flatten_cons, List.length_append, List.sum_cons] at *
    omega

theorem mem_tk {k : Nat} {n x : Int} {l : List Vl} : x ∈ tk k n l ↔ ∃ v ∈ l, v.k = k ∧ n < v.n ∧ v.n = x := by
  unfold tk
  simp only [List.mem_map, List.mem_filter, decide_eq_true_eq]
  constructor
  · rintro ⟨v, ⟨h1, h2, h3⟩, h4⟩; exact ⟨v, h1, h2, h3, h4⟩
  · rintro ⟨v, h1, h2, h3, h4⟩; exact ⟨v, ⟨h1, h2, h3⟩, h4⟩

/-- A free number. -/
def FreeP (S : List Om) (o : Om) (n : Nat) : Prop := S.length < n ∧ n ≤ S.length + 1 + sumL S + o.l.length ∧ (∀ v ∈ o.l, ¬ (v.k = o.k ∧ v.n = n)) ∧ ∀ x ∈ S, ∀ v ∈ x.l, ¬ (v.k = o.k ∧ v.n = n)

theorem free_of {S : List Om} {o : Om} {n : Nat} (h1 : S.length < n) (h2 : n ≤ S.length + 1 + sumL S + o.l.length) (h3 : (n : Int) ∉ tk o.k S.length o.l ++ tkS o.k S.length S) : FreeP S o n := by
  refine ⟨h1, h2, fun v hv hh => h3 ?_, fun x hx v hv hh => h3 ?_⟩
  · exact List.mem_append_left _ (mem_tk.2 ⟨v, hv, hh.1, by rw [hh.2]; omega, hh.2⟩)
  · refine List.mem_append_right _ (List.mem_flatten.2 ⟨tk o.k S.length x.l, List.mem_map.2 ⟨x, hx, rfl⟩, ?_⟩)
    exact mem_tk.2 ⟨v, hv, hh.1, by rw [hh.2]; omega, hh.2⟩

def above (T : List Int) (n : Nat) : Nat := (T.filter (fun x => decide ((n : Int) ≤ x))).length

theorem above_step {T : List Int} {n : Nat} (h : (n : Int) ∈ T) : above T (n + 1) < above T n := by
  induction T with
  | nil => simp at h
  | cons a r ih =>
    unfold above at *
    rw [List.filter_cons, List.filter_cons]
    have hmono : (r.filter (fun x => decide (((n + 1 : Nat) : Int) ≤ x))).length ≤ (r.filter (fun x => decide ((n : Int) ≤ x))).length := by
      clear ih h
      induction r with
      | nil => simp
      | cons b t ih =>
        rw [List.filter_cons, List.filter_cons]
        by_cases h1 : ((n + 1 : Nat) : Int) ≤ b
        · rw [if_pos (by simpa using h1), if_pos (by simp; omega)]; simp only [List.length_cons]; omega
        · rw [if_neg (by simpa using h1)]
          by_cases h2 : (n : Int) ≤ b
          · rw [if_pos (by simpa using h2)]; simp only [List.length_cons]; omega
          · rw [if_neg (by simpa using h2)]; exact ih
    rcases List.mem_cons.1 h with rfl | hr
    · rw [if_neg (by simp; omega), if_pos (by simp)]; simp only [List.length_cons]; omega
    · have := ih hr
      by_cases h1 : ((n + 1 : Nat) : Int) ≤ a
      · rw [if_pos (by simpa using h1), if_pos (by simp; omega)]; simp only [List.length_cons]; omega
      · rw [if_neg (by simpa using h1)]
        by_cases h2 : (n : Int) ≤ a
        · rw [if_pos (by simpa using h2)]; simp only [List.length_cons]; omega
        · rw [if_neg (by simpa using h2)]; exact this

theorem above_le (T : List Int) (n : Nat) : above T n ≤ T.length := List.length_filter_le _ _

set_option maxRecDepth 20000 in
set_option maxHeartbeats 2000000 in
theorem freeNumber_in {p : Option Addr} {S : List Om} (h : Ask w p S) (c : Nat) (o : Om) {q : Option Addr} (co : Nat) (hv : Vals w q o.l) (hfit : ∀ v ∈ o.l, v.fits) (hsum : S.length + 1 + sumL S + o.l.length ≤ 1048576) :
    Calls Try.prog 58 #[.slice p S.length c, .agg #[.int .u8 o.k, .string o.s, .slice q o.l.length co, .int .i64 o.room, .int .i64 o.fn]] w fun e w' => ∃ n : Nat, e = .returned (.int .i64 n) ∧ FreeP S o n ∧ Below w.heap.size w w' := by
  have hlen := h.len
  have hmm := @run_makeMap Try.prog
  have hB := below4' w (.cells #[.slice p S.length c] 25) (.cells #[.int .u8 o.k, .string o.s, .slice q o.l.length co, .int .i64 o.room, .int .i64 o.fn] 46) (.map #[] 0) (.cells #[.map (some (w.heap.size + 1 + 1))] 109)
  have b0 := heap4_0 w (.cells #[.slice p S.length c] 25) (.cells #[.int .u8 o.k, .string o.s, .slice q o.l.length co, .int .i64 o.room, .int .i64 o.fn] 46) (.map #[] 0) (.cells #[.map (some (w.heap.size + 1 + 1))] 109)
  have b1 := heap4_1 w (.cells #[.slice p S.length c] 25) (.cells #[.int .u8 o.k, .string o.s, .slice q o.l.length co, .int .i64 o.room, .int .i64 o.fn] 46) (.map #[] 0) (.cells #[.map (some (w.heap.size + 1 + 1))] 109)
  have b3 := heap4_3 w (.cells #[.slice p S.length c] 25) (.cells #[.int .u8 o.k, .string o.s, .slice q o.l.length co, .int .i64 o.room, .int .i64 o.fn] 46) (.map #[] 0) (.cells #[.map (some (w.heap.size + 1 + 1))] 109)
  have hC0 : IsCnt ((((w.alloc (.cells #[.slice p S.length c] 25)).alloc (.cells #[.int .u8 o.k, .string o.s, .slice q o.l.length co, .int .i64 o.room, .int .i64 o.fn] 46)).alloc (.map #[] 0)).alloc (.cells #[.map (some (w.heap.size + 1 + 1))] 109)) (w.heap.size + 1 + 1) 0 (fun x => ([] : List Int).count x) := by
    have h0 : IsCnt (((w.alloc (.cells #[.slice p S.length c] 25)).alloc (.cells #[.int .u8 o.k, .string o.s, .slice q o.l.length co, .int .i64 o.room, .int .i64 o.fn] 46)).alloc (.map #[] 0)) (w.heap.size + 1 + 1) 0 (fun _ => 0) := by
      have := World.ownsMap_made (H := Unit) ((w.alloc (.cells #[.slice p S.length c] 25)).alloc (.cells #[.int .u8 o.k, .string o.s, .slice q o.l.length co, .int .i64 o.room, .int .i64 o.fn] 46)) Try.prog 2 (plainElem Try.prog 3)
      rw [show ((w.alloc (.cells #[.slice p S.length c] 25)).alloc (.cells #[.int .u8 o.k, .string o.s, .slice q o.l.length co, .int .i64 o.room, .int .i64 o.fn] 46)).heap.size = w.heap.size + 1 + 1 by simp] at this
      exact ⟨.map [], this, fun x => ⟨by simp [DataW.atKey], Nat.le_refl _⟩⟩
    have h1 := h0.kept (w' := (((w.alloc (.cells #[.slice p S.length c] 25)).alloc (.cells #[.int .u8 o.k, .string o.s, .slice q o.l.length co, .int .i64 o.room, .int .i64 o.fn] 46)).alloc (.map #[] 0)).alloc (.cells #[.map (some (w.heap.size + 1 + 1))] 109)) (Below.heap_alloc _ _ _ (by simp))
    simpa using h1
  obtain ⟨⟨x0, x1, x2, x3, x4⟩, -⟩ := cell_row5 b1
  go_enter Try.func58, Try.ntmps58
  go_wp2_with (first
    | (go_at_call 72; refine halt_here ?_))
  unfold Halted
  generalize hW : (((w.alloc (.cells #[.slice p S.length c] 25)).alloc (.cells #[.int .u8 o.k, .string o.s, .slice q o.l.length co, .int .i64 o.room, .int .i64 o.fn] 46)).alloc (.map #[] 0)).alloc (.cells #[.map (some (w.heap.size + 1 + 1))] 109) = W at *
  have hWs : W.heap.size = w.heap.size + 4 := by rw [← hW]; simp
  have HW : Hid _ := hWs
  clear hmm hW hWs
  have l0 := (Array.getElem?_eq_some_iff.1 b0).1
  have l1 := (Array.getElem?_eq_some_iff.1 b1).1
  have l3 := (Array.getElem?_eq_some_iff.1 b3).1
  have HT := take_in (T := []) b1 b0 b3 hC0 co (hv.below hB) hfit (by omega)
  refine Calls.mono HT ?_
  clear HT x0 x1 x2 x3 x4
  rintro e w1 ⟨rfl, hC1, hS1⟩
  have c0 := (hS1.block _ l0 (by omega)).trans b0
  obtain ⟨s0, -⟩ := cell_row1 c0
  simp only [List.nil_append, Nat.zero_add] at hC1
  go_wp2_with fail
  go_loopw [18] (fun s18 wr => ∃ (pre rest : List Om), S = pre ++ rest ∧ s18 = .int .i64 pre.length ∧ IsCnt wr (w.heap.size + 1 + 1) (o.l.length + sumL pre) (fun x => (tk o.k S.length o.l ++ tkS o.k S.length pre).count x) ∧ MStep (w.heap.size + 1 + 1) W wr) (fun s18 _ => S.length - (intOf s18).toNat)
  case atStart => exact ⟨[], S, rfl, rfl, by simpa [tkS, sumL] using hC1, hS1⟩
  case round =>
    obtain ⟨pre, rest, hR, rfl, hC, hS⟩ := hrel
    have hBw : Below w.heap.size w wr := hB.trans (hS.below (by omega) (by have := HW.out; omega))
    have d0 := (hS.block _ l0 (by omega)).trans b0
    have d1 := (hS.block _ l1 (by omega)).trans b1
    have d3 := (hS.block _ l3 (by omega)).trans b3
    obtain ⟨s0, -⟩ := cell_row1 d0
    obtain ⟨t0, -⟩ := cell_row1 d3
    have hsumS : sumL pre ≤ sumL S := by rw [hR]; unfold sumL; simp
    cases rest with
    | nil =>
      have hR' : S = pre := by simpa using hR
      have hq : ¬ ((pre.length : Int) < (S.length : Int)) := by rw [hR']; omega
      have HR : Hid _ := hR'
      rw [← hR'] at hC
      have hTl : (tk o.k S.length o.l ++ tkS o.k S.length S).length ≤ o.l.length + sumL S := by
        have := tk_len o.k S.length o.l
        have := tkS_len o.k S.length S
        rw [List.length_append]; omega
      have HF : Hid _ := @free_of S o
      generalize tk o.k S.length o.l ++ tkS o.k S.length S = T at hC hTl HF
      clear hR hR'
      go_wp2_with fail
      go_loopw [9] (fun s9 w2 => ∃ n : Nat, s9 = .int .i64 n ∧ S.length < n ∧ n + above T n ≤ S.length + 1 + T.length ∧ w2 = wr) (fun s9 _ => above T (intOf s9).toNat)
      case atStart => exact ⟨S.length + 1, by simp, by omega, by have := above_le T (S.length + 1); omega, rfl⟩
      case round =>
        obtain ⟨n, rfl, hn1, hn2, rfl⟩ := hrel
        have hlook := hC.look n ⟨by omega, by omega⟩
        by_cases hc : 0 < T.count (n : Int)
        · have hmem := List.count_pos_iff.1 hc
          have hstep := above_step hmem
          have hc' : (0 : Int) < (T.count (n : Int) : Int) := by omega
          go_wp2
          go_roundw
          case rel => exact ⟨n + 1, by simp, by omega, by omega, by first | rfl | trivial⟩
          case measure => simp [intOf]; exact hstep
        · have hc' : ¬ ((0 : Int) < (T.count (n : Int) : Int)) := by omega
          have hnm : (n : Int) ∉ T := fun hm => hc (List.count_pos_iff.2 hm)
          go_wp2
          go_ret
          exact ⟨n, rfl, HF.out hn1 (by omega) hnm, hBw⟩
    | cons x rest =>
      have hxl : S[pre.length]? = some x := by rw [hR]; simp
      have hlt : pre.length < S.length := by rw [hR]; simp
      have hlt' : (pre.length : Int) < (S.length : Int) := by omega
      have hxm : x ∈ S := List.mem_of_getElem? hxl
      obtain ⟨b0', off, rfl, g0, g1, ⟨qx, cx, g2, hvx, -⟩, g3, g4⟩ := h.st.look hBw hxl
      have hA := below1 wr (.cells #[.int .u8 x.k, .string x.s, .slice qx x.l.length cx, .int .i64 x.room, .int .i64 x.fn] 46)
      have hS1' := hS.alloc (.cells #[.int .u8 x.k, .string x.s, .slice qx x.l.length cx, .int .i64 x.room, .int .i64 x.fn] 46)
      obtain ⟨⟨y0, y1, y2, y3, y4⟩, -⟩ := cell_row5 (heap_alloc_new wr (.cells #[.int .u8 x.k, .string x.s, .slice qx x.l.length cx, .int .i64 x.room, .int .i64 x.fn] 46))
      have hsx : sumL pre + x.l.length ≤ sumL S := by rw [hR]; unfold sumL; simp <;> omega
      have HT := take_in ((hA.block _ (Array.getElem?_eq_some_iff.1 d1).1).trans d1) ((hA.block _ (Array.getElem?_eq_some_iff.1 d0).1).trans d0) ((hA.block _ (Array.getElem?_eq_some_iff.1 d3).1).trans d3) (hC.kept (hA.block _ hC.lt)) cx (hvx.below (hBw.trans (hA.mono hBw.size))) (h.fit x hxm).2.1 (by omega)
      have e1 : (((pre ++ [x]).length : Nat) : Int) = pre.length + 1 := by simp
      have HR : Hid _ := hR
      clear hR hxl hsx
      go_wp2_with (first
        | (go_at_call 72; (with_reducible refine HT.mono ?_); clear HT; rintro e w2 ⟨rfl, hC2, hS2⟩))
      go_roundw
      case rel =>
        refine ⟨pre ++ [x], rest, by have := HR.out; simpa using this, by rw [e1], ?_, hS1'.trans hS2⟩
        rw [tkS_snoc, ← List.append_assoc, show sumL (pre ++ [x]) = sumL pre + x.l.length by simp [sumL], ← Nat.add_assoc]
        exact hC2
      case measure => simp [intOf]; omega

end Go.Proofs.Ytgokofomoachaab
