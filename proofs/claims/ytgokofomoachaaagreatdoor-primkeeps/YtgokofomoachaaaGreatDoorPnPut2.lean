/- plain: Put; prim: Get and Put. -/
import Derived.Test.YtgokofomoachaaaGreatDoorPnPut
namespace Go.Proofs.YtgokofomoachaaaGreatDoor
set_option linter.unusedVariables false
set_option linter.unusedSimpArgs false
open Go.RowKit

variable {w : World}

/-- What Put works out of values that may be. -/
def putD (v k x : Vl) (i : Nat) (o : Om) (r : Option Nat) : Dd :=
  if k.k = 7 ∨ x.k = 7 then thrD tKind
  else if v.k = 5 then putPairD i o k x r
  else if v.k = 4 ∧ k.k = 2 then putItemD i o k.n x
  else thrD tKind

theorem roomP_le {o : Om} (h : roomP o) : 0 ≤ o.room ∧ o.room ≤ 1099511627776 := by
  unfold roomP at h
  omega

set_option maxRecDepth 20000 in
set_option maxHeartbeats 4000000 in
theorem Put_pl {p : Option Addr} {S : List Om} (h : Ask w p S) (c : Nat) (v k x : Vl) (hf : mayL S [v, k, x]) (i : Nat) (o : Om) (r : Option Nat) (hlo : 3 ≤ v.k → leadO S v = some o ∧ v.n = (i : Int) + 1) (hka : v.k = 5 → KeyAt S o.l k r) {d : Dd} (hd : d = putD v k x i o r) :
    Calls Tryz.prog 142 #[.slice p S.length c, .agg #[.int .u8 v.k, .int .i64 v.n], .agg #[.int .u8 k.k, .int .i64 k.n], .agg #[.int .u8 x.k, .int .i64 x.n]] w (DeedR w d) := by
  have hB := below4' w (.cells #[.int .u8 v.k, .int .i64 v.n] 27) (.cells #[.int .u8 k.k, .int .i64 k.n] 27) (.cells #[.int .u8 x.k, .int .i64 x.n] 27) (.cells #[.string ⟨#[]⟩, .int .i64 0, .int .u8 0, .int .i64 0, .int .u8 0, .string ⟨#[]⟩, .slice none 0 0, .int .i64 0, .int .i64 0, .int .i64 0, .int .i64 0, .slice none 0 0, .int .i64 0] 100)
  have e0 := heap4_0 w (.cells #[.int .u8 v.k, .int .i64 v.n] 27) (.cells #[.int .u8 k.k, .int .i64 k.n] 27) (.cells #[.int .u8 x.k, .int .i64 x.n] 27) (.cells #[.string ⟨#[]⟩, .int .i64 0, .int .u8 0, .int .i64 0, .int .u8 0, .string ⟨#[]⟩, .slice none 0 0, .int .i64 0, .int .i64 0, .int .i64 0, .int .i64 0, .slice none 0 0, .int .i64 0] 100)
  have e1 := heap4_1 w (.cells #[.int .u8 v.k, .int .i64 v.n] 27) (.cells #[.int .u8 k.k, .int .i64 k.n] 27) (.cells #[.int .u8 x.k, .int .i64 x.n] 27) (.cells #[.string ⟨#[]⟩, .int .i64 0, .int .u8 0, .int .i64 0, .int .u8 0, .string ⟨#[]⟩, .slice none 0 0, .int .i64 0, .int .i64 0, .int .i64 0, .int .i64 0, .slice none 0 0, .int .i64 0] 100)
  have e2 := heap4_2 w (.cells #[.int .u8 v.k, .int .i64 v.n] 27) (.cells #[.int .u8 k.k, .int .i64 k.n] 27) (.cells #[.int .u8 x.k, .int .i64 x.n] 27) (.cells #[.string ⟨#[]⟩, .int .i64 0, .int .u8 0, .int .i64 0, .int .u8 0, .string ⟨#[]⟩, .slice none 0 0, .int .i64 0, .int .i64 0, .int .i64 0, .int .i64 0, .slice none 0 0, .int .i64 0] 100)
  have e3 := heap4_3 w (.cells #[.int .u8 v.k, .int .i64 v.n] 27) (.cells #[.int .u8 k.k, .int .i64 k.n] 27) (.cells #[.int .u8 x.k, .int .i64 x.n] 27) (.cells #[.string ⟨#[]⟩, .int .i64 0, .int .u8 0, .int .i64 0, .int .u8 0, .string ⟨#[]⟩, .slice none 0 0, .int .i64 0, .int .i64 0, .int .i64 0, .int .i64 0, .slice none 0 0, .int .i64 0] 100)
  obtain ⟨x0, x1⟩ := cell_row2 e1
  obtain ⟨y0, y1⟩ := cell_row2 e2
  obtain ⟨bc, hbc⟩ := b_of (∃ u ∈ [k, x], u.k = 7)
  have HD : Hid _ := And.intro hd (And.intro hlo hka)
  clear hd hlo hka
  go_enter Tryz.func142, Tryz.ntmps142
  go_wp2_with (first
    | (go_at_call 174; refine halt_here ?_))
  unfold Halted
  have hsz : ((((w.alloc (.cells #[.int .u8 v.k, .int .i64 v.n] 27)).alloc (.cells #[.int .u8 k.k, .int .i64 k.n] 27)).alloc (.cells #[.int .u8 x.k, .int .i64 x.n] 27)).alloc (.cells #[.string ⟨#[]⟩, .int .i64 0, .int .u8 0, .int .i64 0, .int .u8 0, .string ⟨#[]⟩, .slice none 0 0, .int .i64 0, .int .i64 0, .int .i64 0, .int .i64 0, .slice none 0 0, .int .i64 0] 100)).heap.size = w.heap.size + 1 + 1 + 1 + 1 := by simp
  generalize hW : (((w.alloc (.cells #[.int .u8 v.k, .int .i64 v.n] 27)).alloc (.cells #[.int .u8 k.k, .int .i64 k.n] 27)).alloc (.cells #[.int .u8 x.k, .int .i64 x.n] 27)).alloc (.cells #[.string ⟨#[]⟩, .int .i64 0, .int .u8 0, .int .i64 0, .int .u8 0, .string ⟨#[]⟩, .slice none 0 0, .int .i64 0, .int .i64 0, .int .i64 0, .int .i64 0, .slice none 0 0, .int .i64 0] 100) = W at *
  clear hW
  have hnew := heap_alloc_new W (.cells #[.int .u8 k.k, .int .i64 k.n, .int .u8 x.k, .int .i64 x.n] 27)
  have hBY := below1 W (.cells #[.int .u8 k.k, .int .i64 k.n, .int .u8 x.k, .int .i64 x.n] 27)
  rw [hsz] at hnew
  clear hsz
  refine Calls.mono (anyCell_in (l := [k, x]) 2 (one_vals2 hnew) (by simp) bc hbc) ?_
  rintro e w0 ⟨rfl, hB0⟩
  have hB' := hBY.trans (hB0.mono hBY.size)
  have hBw := hB.trans (hB'.mono hB.size)
  have f0 := (hB'.block _ (Array.getElem?_eq_some_iff.1 e0).1).trans e0
  have f1 := (hB'.block _ (Array.getElem?_eq_some_iff.1 e1).1).trans e1
  have f2 := (hB'.block _ (Array.getElem?_eq_some_iff.1 e2).1).trans e2
  have f3 := (hB'.block _ (Array.getElem?_eq_some_iff.1 e3).1).trans e3
  clear x0 x1 y0 y1 e0 e1 e2 e3 hnew hBY hB'
  obtain ⟨x0, x1⟩ := cell_row2 f0
  obtain ⟨y0, y1⟩ := cell_row2 f1
  obtain ⟨s0, s1⟩ := cell_row2 f2
  obtain ⟨hd, hlo, hka⟩ := HD.out
  clear HD
  unfold putD at hd
  cases bc with
  | true =>
    have hc7 : k.k = 7 ∨ x.k = 7 := by
      obtain ⟨u, hu, h7⟩ := hbc.1 rfl
      simp at hu
      rcases hu with rfl | rfl
      · exact .inl h7
      · exact .inr h7
    rw [if_pos hc7] at hd
    have H1 := throwsD hd w0
    unfold tKind at H1
    clear hd hc7 hbc hlo hka
    go_wp2_with (first
      | (go_at_call 154; (with_reducible refine H1.mono ?_); clear H1; rintro e w1 ⟨q, c_, q2, rfl, h1, h2, hB1⟩; have hr := (hB1.block _ (Array.getElem?_eq_some_iff.1 f3).1).trans f3; obtain ⟨⟨z0, z1, z2, z3, z4, z5, z6, z7, z8, z9, z10, z11, z12⟩, t0, t1, t2, t3, t4, t5, t6, t7, t8, t9, t10, t11, t12⟩ := cell_row13 hr))
    refine bodyPost_ret (results_cell_row (by rfl) _ _ (w.heap.size + 1 + 1 + 1) 100 _ _ _ (by rfl) (set13_row hr) Tryz.underlying100 (by rfl) infoDeed) (by rfl) ?_
    exact deed_fin hr (by omega) d h1 h2 (hBw.trans (hB1.mono hBw.size))
  | false =>
    have hc7 : ¬ (k.k = 7 ∨ x.k = 7) := fun hh => by
      have := hbc.2 (by rcases hh with hh | hh; exact ⟨k, by simp, hh⟩; exact ⟨x, by simp, hh⟩)
      cases this
    rw [if_neg hc7] at hd
    clear hbc hc7
    by_cases h5 : v.k = 5
    · rw [if_pos h5] at hd
      obtain ⟨vk, vn⟩ := v
      simp only at h5
      subst h5
      obtain ⟨hle, hvn⟩ := hlo (by simp)
      simp only at hvn
      subst hvn
      obtain ⟨o', ho', hobj⟩ := may_obj hf (v := ⟨5, (i : Int) + 1⟩) (by simp) (by simp)
      rw [hle] at ho'; cases ho'
      have hok : o.k = 5 := (leadO_some hle).2.2.1
      have hrm := roomP_le (hobj.1.2.2.1 hok).2.2.1
      have H1 := putPair_pl (h.below hBw) c 5 hle hrm.1 hrm.2 (obj_text hobj) k x (may_text hf (by simp)) r (hka rfl) hd
      simp only [show ((5 : Nat) : Int) = 5 from rfl] at H1 x0 x1
      clear hd hlo hka hle hobj hok hrm hf
      go_wp2_with (first
        | (go_at_call 230; (with_reducible refine H1.mono ?_); clear H1; rintro e w1 ⟨q, c_, q2, rfl, h1, h2, hB1⟩; have hr := (hB1.block _ (Array.getElem?_eq_some_iff.1 f3).1).trans f3; obtain ⟨⟨z0, z1, z2, z3, z4, z5, z6, z7, z8, z9, z10, z11, z12⟩, t0, t1, t2, t3, t4, t5, t6, t7, t8, t9, t10, t11, t12⟩ := cell_row13 hr))
      refine bodyPost_ret (results_cell_row (by rfl) _ _ (w.heap.size + 1 + 1 + 1) 100 _ _ _ (by rfl) (set13_row hr) Tryz.underlying100 (by rfl) infoDeed) (by rfl) ?_
      exact deed_fin hr (by omega) d h1 h2 (hBw.trans (hB1.mono hBw.size))
    · rw [if_neg h5] at hd
      have h5' : ¬ ((v.k : Int) = 5) := by omega
      by_cases h4 : v.k = 4 ∧ k.k = 2
      · rw [if_pos h4] at hd
        obtain ⟨vk, vn⟩ := v
        obtain ⟨kk, kn⟩ := k
        simp only at h4
        obtain ⟨h4a, h4b⟩ := h4
        subst h4a h4b
        obtain ⟨hle, hvn⟩ := hlo (by simp)
        simp only at hvn
        subst hvn
        obtain ⟨o', ho', hobj⟩ := may_obj hf (v := ⟨4, (i : Int) + 1⟩) (by simp) (by simp)
        rw [hle] at ho'; cases ho'
        have hok : o.k = 4 := (leadO_some hle).2.2.1
        have hrm := roomP_le (hobj.1.2.1 hok).2.1
        have H1 := putItem_pl (h.below hBw) c 4 hle hrm.1 hrm.2 kn x hd
        simp only [show ((4 : Nat) : Int) = 4 from rfl, show ((2 : Nat) : Int) = 2 from rfl] at H1 x0 x1 y0 y1
        clear hd hlo hka hle hobj hok hrm hf h5 h5'
        go_wp2_with (first
          | (go_at_call 231; (with_reducible refine H1.mono ?_); clear H1; rintro e w1 ⟨q, c_, q2, rfl, h1, h2, hB1⟩; have hr := (hB1.block _ (Array.getElem?_eq_some_iff.1 f3).1).trans f3; obtain ⟨⟨z0, z1, z2, z3, z4, z5, z6, z7, z8, z9, z10, z11, z12⟩, t0, t1, t2, t3, t4, t5, t6, t7, t8, t9, t10, t11, t12⟩ := cell_row13 hr))
        refine bodyPost_ret (results_cell_row (by rfl) _ _ (w.heap.size + 1 + 1 + 1) 100 _ _ _ (by rfl) (set13_row hr) Tryz.underlying100 (by rfl) infoDeed) (by rfl) ?_
        exact deed_fin hr (by omega) d h1 h2 (hBw.trans (hB1.mono hBw.size))
      · rw [if_neg h4] at hd
        have H1 := throwsD hd w0
        unfold tKind at H1
        clear hd hlo hka
        by_cases g4 : v.k = 4
        · have g2 : ¬ ((k.k : Int) = 2) := fun e => h4 ⟨g4, by omega⟩
          obtain ⟨vk, vn⟩ := v
          simp only at g4
          subst g4
          simp only [show ((4 : Nat) : Int) = 4 from rfl] at x0 x1
          clear h4 h5 h5'
          go_wp2_with (first
            | (go_at_call 154; (with_reducible refine H1.mono ?_); clear H1; rintro e w1 ⟨q, c_, q2, rfl, h1, h2, hB1⟩; have hr := (hB1.block _ (Array.getElem?_eq_some_iff.1 f3).1).trans f3; obtain ⟨⟨z0, z1, z2, z3, z4, z5, z6, z7, z8, z9, z10, z11, z12⟩, t0, t1, t2, t3, t4, t5, t6, t7, t8, t9, t10, t11, t12⟩ := cell_row13 hr))
          refine bodyPost_ret (results_cell_row (by rfl) _ _ (w.heap.size + 1 + 1 + 1) 100 _ _ _ (by rfl) (set13_row hr) Tryz.underlying100 (by rfl) infoDeed) (by rfl) ?_
          exact deed_fin hr (by omega) d h1 h2 (hBw.trans (hB1.mono hBw.size))
        · have g4' : ¬ ((v.k : Int) = 4) := by omega
          clear h4 g4
          go_wp2_with (first
            | (go_at_call 154; (with_reducible refine H1.mono ?_); clear H1; rintro e w1 ⟨q, c_, q2, rfl, h1, h2, hB1⟩; have hr := (hB1.block _ (Array.getElem?_eq_some_iff.1 f3).1).trans f3; obtain ⟨⟨z0, z1, z2, z3, z4, z5, z6, z7, z8, z9, z10, z11, z12⟩, t0, t1, t2, t3, t4, t5, t6, t7, t8, t9, t10, t11, t12⟩ := cell_row13 hr))
          refine bodyPost_ret (results_cell_row (by rfl) _ _ (w.heap.size + 1 + 1 + 1) 100 _ _ _ (by rfl) (set13_row hr) Tryz.underlying100 (by rfl) infoDeed) (by rfl) ?_
          exact deed_fin hr (by omega) d h1 h2 (hBw.trans (hB1.mono hBw.size))

/-- What Get comes to. -/
def getP (S : List Om) (v k : Vl) (o : Om) (r : Option Nat) : Dv :=
  if v.k = 5 ∧ k.k ≠ 7 then ⟨S, mval o.l r, ⟨#[]⟩, 0⟩
  else if v.k = 4 ∧ k.k = 2 then (if k.n < 0 ∨ (o.l.length : Int) ≤ k.n then ⟨S, ⟨0, 0⟩, tBounds, 0⟩ else ⟨S, o.l.getD k.n.toNat ⟨0, 0⟩, ⟨#[]⟩, 0⟩)
  else if v.k = 3 ∧ k.k = 2 then (if k.n < 0 ∨ (o.s.size : Int) ≤ k.n then ⟨S, ⟨0, 0⟩, tBounds, 0⟩ else ⟨S ++ [txtO (o.s.extract k.n.toNat (k.n.toNat + 1))], ⟨3, (S.length : Int) + 1⟩, ⟨#[]⟩, (wordsO (txtO (o.s.extract k.n.toNat (k.n.toNat + 1))) : Nat)⟩)
  else refD S

def GetR (S : List Om) (v k : Vl) (d : Dv) : Prop := (¬ mayL S [v, k] ∧ d = refD S) ∨ (mayL S [v, k] ∧ ∃ o r, (3 ≤ v.k → leadO S v = some o) ∧ (v.k = 5 → KeyAt S o.l k r) ∧ d = getP S v k o r)

theorem getD_done (S : List Om) (v k : Vl) (o : Om) (hs : o.s.size ≤ 1048576) (r : Option Nat) : DoneR S (getD v k o r) (getP S v k o r) := by
  unfold getD getP
  by_cases h5 : v.k = 5 ∧ k.k ≠ 7
  · rw [if_pos h5, if_pos h5]; exact DoneR.old (d := { v := mval o.l r }) rfl rfl
  · rw [if_neg h5, if_neg h5]
    by_cases h4 : v.k = 4 ∧ k.k = 2
    · rw [if_pos h4, if_pos h4]
      by_cases hb : k.n < 0 ∨ (o.l.length : Int) ≤ k.n
      · rw [if_pos hb, if_pos hb]; exact DoneR.old (d := thrD tBounds) rfl rfl
      · rw [if_neg hb, if_neg hb]; exact DoneR.old (d := { v := o.l.getD k.n.toNat ⟨0, 0⟩ }) rfl rfl
    · rw [if_neg h4, if_neg h4]
      by_cases h3 : v.k = 3 ∧ k.k = 2
      · rw [if_pos h3, if_pos h3]
        by_cases hb : k.n < 0 ∨ (o.s.size : Int) ≤ k.n
        · rw [if_pos hb, if_pos hb]; exact DoneR.old (d := thrD tBounds) rfl rfl
        · rw [if_neg hb, if_neg hb]
          exact DoneR.new (d := makesD (txtO (o.s.extract k.n.toNat (k.n.toNat + 1)))) (by simp [makesD, txtO]) rfl (by simp [makesD, txtO]) (by simp only [makesD, txtO]; rw [ByteArray.size_extract]; omega)
      · rw [if_neg h3, if_neg h3]; exact DoneR.old (d := thrD tKind) rfl rfl

theorem Get_in {p : Option Addr} {S : List Om} (h : Ask w p S) (c : Nat) (v k : Vl) (d : Dv) (hd : GetR S v k d) :
    Calls Tryz.prog 42 #[.slice p S.length c, .agg #[.int .u8 v.k, .int .i64 v.n], .agg #[.int .u8 k.k, .int .i64 k.n]] w (DidR w d.S d.v d.t d.n) := by
  refine pGet_in h c v k ?_
  rcases hd with hd | ⟨hf, o, r, hlo, hka, hd⟩
  · exact .inl hd
  · refine .inr ⟨hf, ?_⟩
    by_cases h3 : 3 ≤ v.k
    · exact ⟨getD v k o r, by rw [hd]; exact getD_done S v k o (h.str o (leadO_mem (hlo h3))) r, fun W hB => (Get_pl (h.below hB) c v k hf o r hlo hka rfl).mono (fun e w' hh => hh.V)⟩
    · have e : getD v k o r = thrD tKind := by
        unfold getD
        rw [if_neg (by omega), if_neg (by omega), if_neg (by omega)]
      have e2 : getP S v k o r = refD S := by
        unfold getP
        rw [if_neg (by omega), if_neg (by omega), if_neg (by omega)]
      exact ⟨getD v k o r, by rw [hd, e, e2]; exact DoneR.old (d := thrD tKind) rfl rfl, fun W hB => (Get_pl (h.below hB) c v k hf o r hlo hka rfl).mono (fun e w' hh => hh.V)⟩

/-- What Put comes to. -/
def addedP (S : List Om) (i : Nat) (o : Om) (least : Int) (more : List Vl) : Dv :=
  if o.room < (o.l.length : Int) + more.length then ⟨S.set i { o with l := o.l ++ more, room := max least (2 * o.room) }, ⟨0, 0⟩, ⟨#[]⟩, 1 + 2 * max least (2 * o.room)⟩
  else ⟨S.set i { o with l := o.l ++ more, room := o.room }, ⟨0, 0⟩, ⟨#[]⟩, 0⟩

def putItemP (S : List Om) (i : Nat) (o : Om) (n : Int) (x : Vl) : Dv :=
  if n < 0 ∨ (o.l.length : Int) < n then ⟨S, ⟨0, 0⟩, tBounds, 0⟩
  else if n < (o.l.length : Int) then ⟨S.set i { o with l := o.l.set n.toNat x }, ⟨0, 0⟩, ⟨#[]⟩, 0⟩
  else if o.l.length = 65536 then ⟨S, ⟨0, 0⟩, tItems, 0⟩
  else addedP S i o 4 [x]

def putPairP (S : List Om) (i : Nat) (o : Om) (k x : Vl) (r : Option Nat) : Dv :=
  match r with
  | some j => ⟨S.set i { o with l := o.l.set (j + 1) x }, ⟨0, 0⟩, ⟨#[]⟩, 0⟩
  | none => if o.l.length = 131072 then ⟨S, ⟨0, 0⟩, tItems, 0⟩ else addedP S i o 8 [k, x]

def putP (S : List Om) (v k x : Vl) (i : Nat) (o : Om) (r : Option Nat) : Dv :=
  if k.k = 7 ∨ x.k = 7 then refD S
  else if v.k = 5 then putPairP S i o k x r
  else if v.k = 4 ∧ k.k = 2 then putItemP S i o k.n x
  else refD S

def PutQ (S : List Om) (v k x : Vl) (d : Dv) : Prop := (¬ mayL S [v, k, x] ∧ d = refD S) ∨ (mayL S [v, k, x] ∧ ∃ (i : Nat) (o : Om) (r : Option Nat), (3 ≤ v.k → leadO S v = some o ∧ v.n = (i : Int) + 1) ∧ (v.k = 5 → KeyAt S o.l k r) ∧ d = putP S v k x i o r)

theorem addedD_done {S : List Om} {i : Nat} {o : Om} (ho : S[i]? = some o) (least : Int) {more : List Vl} (h0 : 0 < more.length) (h2 : more.length ≤ 2) : DoneR S (addedD i o least more) (addedP S i o least more) := by
  unfold addedD addedP
  by_cases hR : o.room < (o.l.length : Int) + more.length
  · rw [if_pos hR, if_pos hR]
    exact DoneR.add (d := addD ((i : Int) + 1) o.l.length more (max least (2 * o.room)) (1 + 2 * max least (2 * o.room))) rfl ho rfl rfl h0 h2
  · rw [if_neg hR, if_neg hR]
    exact DoneR.add (d := addD ((i : Int) + 1) o.l.length more o.room 0) rfl ho rfl rfl h0 h2

theorem putItemD_done {S : List Om} {i : Nat} {o : Om} (ho : S[i]? = some o) (n : Int) (x : Vl) : DoneR S (putItemD i o n x) (putItemP S i o n x) := by
  unfold putItemD putItemP
  by_cases h1 : n < 0 ∨ (o.l.length : Int) < n
  · rw [if_pos h1, if_pos h1]; exact DoneR.old (d := thrD tBounds) rfl rfl
  · rw [if_neg h1, if_neg h1]
    by_cases h2 : n < (o.l.length : Int)
    · rw [if_pos h2, if_pos h2]
      exact DoneR.set (d := setD ((i : Int) + 1) n x o.room) (j := n.toNat) (u := x) rfl ho (by omega) rfl (by show n = _; omega) rfl
    · rw [if_neg h2, if_neg h2]
      by_cases h3 : o.l.length = 65536
      · rw [if_pos h3, if_pos h3]; exact DoneR.old (d := thrD tItems) rfl rfl
      · rw [if_neg h3, if_neg h3]; exact addedD_done ho 4 (by simp) (by simp)

theorem putPairD_done {S : List Om} {i : Nat} {o : Om} (ho : S[i]? = some o) (k x : Vl) (r : Option Nat) (hr : ∀ j, r = some j → j + 1 < o.l.length) : DoneR S (putPairD i o k x r) (putPairP S i o k x r) := by
  cases r with
  | some j => exact DoneR.set (d := setD ((i : Int) + 1) ((j : Int) + 1) x o.room) (j := j + 1) (u := x) rfl ho (hr j rfl) rfl rfl rfl
  | none =>
    unfold putPairD putPairP
    by_cases h3 : o.l.length = 131072
    · simp only [if_pos h3]; exact DoneR.old (d := thrD tItems) rfl rfl
    · simp only [if_neg h3]; exact addedD_done ho 8 (by simp) (by simp)

theorem Put_in {p : Option Addr} {S : List Om} (h : Ask w p S) (c : Nat) (v k x : Vl) (d : Dv) (hd : PutQ S v k x d) :
    Calls Tryz.prog 41 #[.slice p S.length c, .agg #[.int .u8 v.k, .int .i64 v.n], .agg #[.int .u8 k.k, .int .i64 k.n], .agg #[.int .u8 x.k, .int .i64 x.n]] w (DidR w d.S d.v d.t d.n) := by
  refine pPut_in h c v k x ?_
  rcases hd with hd | ⟨hf, i, o, r, hlo, hka, hd⟩
  · exact .inl hd
  · refine .inr ⟨hf, putD v k x i o r, ?_, fun W hB => (Put_pl (h.below hB) c v k x hf i o r hlo hka rfl).mono (fun e w' hh => hh.V)⟩
    rw [hd]
    unfold putD putP
    by_cases h7 : k.k = 7 ∨ x.k = 7
    · rw [if_pos h7, if_pos h7]; exact DoneR.old (d := thrD tKind) rfl rfl
    · rw [if_neg h7, if_neg h7]
      have hS : 3 ≤ v.k → S[i]? = some o := fun h3 => by
        obtain ⟨h1, h2⟩ := hlo h3
        obtain ⟨-, -, -, i', hn, -, hS⟩ := leadO_some h1
        have : i' = i := by omega
        subst this; exact hS
      by_cases h5 : v.k = 5
      · rw [if_pos h5, if_pos h5]
        refine putPairD_done (hS (by omega)) k x r (fun j e => ?_)
        obtain ⟨o', ho', hobj⟩ := may_obj hf (v := v) (by simp) (by omega)
        rw [(hlo (by omega)).1] at ho'; cases ho'
        have hok : o.k = 5 := by have := (leadO_some (hlo (by omega)).1).2.2.1; omega
        have hform := hobj.1.2.2.1 hok
        have hk := hka h5
        subst e
        obtain ⟨h1, ⟨y, hy, -⟩, -⟩ := hk
        have := (List.getElem?_eq_some_iff.1 hy).1
        have := hform.1
        omega
      · rw [if_neg h5, if_neg h5]
        by_cases h4 : v.k = 4 ∧ k.k = 2
        · rw [if_pos h4, if_pos h4]; exact putItemD_done (hS (by omega)) k.n x
        · rw [if_neg h4, if_neg h4]; exact DoneR.old (d := thrD tKind) rfl rfl


end Go.Proofs.YtgokofomoachaaaGreatDoor
