/- The document's teller: a list, a map; Text. -/
import Derived.Test.YtgokofomoachaaaGreatDoorShTellV
namespace Go.Proofs.YtgokofomoachaaaGreatDoor
set_option linter.unusedVariables false
set_option linter.unusedSimpArgs false
open Go.RowKit

variable {w : World}

/-- What stands ahead of an item. -/
def aheadT (k i : Nat) : List UInt8 := if k = 5 ∧ i % 2 = 1 then colT else if 0 < i then sepT else []

def seqT (k : Nat) (g : Vl → List UInt8) (l : List Vl) : List UInt8 := l.zipIdx.flatMap (fun x => aheadT k x.2 ++ g x.1)

theorem seqT_snoc (k : Nat) (g : Vl → List UInt8) (l : List Vl) (v : Vl) : seqT k g (l ++ [v]) = seqT k g l ++ (aheadT k l.length ++ g v) := by
  unfold seqT
  rw [List.zipIdx_append, List.flatMap_append]
  simp

theorem seqT_take {k : Nat} {g : Vl → List UInt8} {l : List Vl} {j : Nat} {v : Vl} (h : l[j]? = some v) : seqT k g (l.take (j + 1)) = seqT k g (l.take j) ++ (aheadT k j ++ g v) := by
  have hj := (List.getElem?_eq_some_iff.1 h).1
  rw [List.take_add_one, h, Option.toList_some, seqT_snoc]
  have : (l.take j).length = j := by simp; omega
  rw [this]

theorem seqT_pre (k : Nat) (g : Vl → List UInt8) (l : List Vl) (j : Nat) : ∃ r, seqT k g l = seqT k g (l.take j) ++ r := by
  refine ⟨((l.drop j).zipIdx (l.take j).length).flatMap (fun x => aheadT k x.2 ++ g x.1), ?_⟩
  conv => lhs; rw [← List.take_append_drop j l]
  unfold seqT
  rw [List.zipIdx_append, List.flatMap_append]
  simp

theorem seqT_list (g : Vl → List UInt8) (l : List Vl) {k : Nat} (hk : k ≠ 5) : seqT k g l = itemsT g l := by
  unfold seqT itemsT
  congr 1
  funext x
  unfold aheadT
  rw [if_neg (fun h => hk h.1)]
  by_cases h : x.2 = 0
  · rw [if_neg (by omega), if_pos h]
  · rw [if_pos (by omega), if_neg h]

theorem seqT_map (g : Vl → List UInt8) (hg : g ⟨0, 0⟩ = [110, 105, 108]) : ∀ (l : List Vl) (n : Nat), n % 2 = 0 →
    (l.zipIdx n).flatMap (fun x => aheadT 5 x.2 ++ g x.1) ++ (if l.length % 2 = 1 then [58, 32, 110, 105, 108] else []) = ((pairsOf l).zipIdx (n / 2)).flatMap (fun x => (if x.2 = 0 then [] else sepT) ++ (g x.1.1 ++ (colT ++ g x.1.2)))
  | [], n, _ => rfl
  | [a], n, hn => by
    have e : aheadT 5 n = if n / 2 = 0 then [] else sepT := by
      unfold aheadT
      rw [if_neg (by omega)]
      by_cases h : n = 0
      · rw [if_neg (by omega), if_pos (by omega)]
      · rw [if_pos (by omega), if_neg (by omega)]
    simp [pairsOf, e, hg, colT]
  | a :: b :: r, n, hn => by
    have ih := seqT_map g hg r (n + 1 + 1) (by omega)
    have e : aheadT 5 n = if n / 2 = 0 then [] else sepT := by
      unfold aheadT
      rw [if_neg (by omega)]
      by_cases h : n = 0
      · rw [if_neg (by omega), if_pos (by omega)]
      · rw [if_pos (by omega), if_neg (by omega)]
    have e2 : aheadT 5 (n + 1) = colT := by unfold aheadT; rw [if_pos ⟨rfl, by omega⟩]
    have e3 : (n + 1 + 1) / 2 = n / 2 + 1 := by omega
    have e4 : (a :: b :: r).length % 2 = r.length % 2 := by simp only [List.length_cons]; omega
    rw [e3] at ih
    rw [e4]
    simp only [List.zipIdx_cons, List.flatMap_cons, pairsOf, e, e2, List.append_assoc]
    rw [ih]

theorem row_text (g : Vl → List UInt8) (hg : g ⟨0, 0⟩ = [110, 105, 108]) (o : Om) (ho : o.k = 4 ∨ o.k = 5) :
    rowT g o = (if o.k = 5 then [123] else [91]) ++ (seqT o.k g o.l ++ ((if o.k = 5 ∧ o.l.length % 2 = 1 then [58, 32, 110, 105, 108] else []) ++ (if o.k = 5 then [125] else [93]))) := by
  unfold rowT
  rcases ho with h | h
  · rw [if_pos h, if_neg (by omega), if_neg (by omega), if_neg (by omega), seqT_list g o.l (by omega)]
    simp
  · rw [if_neg (by omega), if_pos h, if_pos h, h]
    have := seqT_map g hg o.l 0 rfl
    unfold pairsT seqT
    rw [← this]
    by_cases hm : o.l.length % 2 = 1
    · simp [hm]
    · simp [hm]

section
variable {w0 : World} {bt c : Nat} {p : Option Addr} {S : List Om} {d : Int} {g : Vl → List UInt8}

theorem box_kept {bt b : Nat} {w w' : World} {cur : Array Value} (h : w.heap[b]? = some (.cells cur 96 (0, 0))) (hP : PStep w0.heap.size bt w w') (hne : b ≠ bt) : w'.heap[b]? = some (.cells cur 96 (0, 0)) :=
  (hP.box b cur _ _ h (by decide) hne).trans h

set_option maxRecDepth 20000 in
set_option maxHeartbeats 4000000 in
theorem trow_list (HV : TValC w0 bt c p S (d + 1) g) (hd : -1000 ≤ d ∧ d ≤ 1000) (w : World) (l : List UInt8) (lg : Bool) (o : Om) (qo : Option Addr) (co : Nat) (hfit : ∀ v ∈ o.l, v.fits) (hlen : o.l.length ≤ 1048576) (hk : o.k = 4) (hv : Vals w0 qo o.l) (hB : Below w0.heap.size w0 w) (ht : Tl w0.heap.size bt (.slice p S.length c) l lg w)
    (X : List UInt8) (hX : X = [91] ++ (seqT 4 g o.l ++ ([] ++ [93]))) :
    Calls Tryz.prog 248 #[.pointer (some ⟨bt, 0, none⟩), objV o qo co, .int .i64 d] w fun e w' => TPuts w0.heap.size bt (.slice p S.length c) l lg X w e w' := by
  unfold objV
  rw [hk]
  have hA := below1 w (.cells #[.int .u8 4, .string o.s, .slice qo o.l.length co, .int .i64 o.room, .int .i64 o.fn] 96)
  have hbx := heap_alloc_new w (.cells #[.int .u8 4, .string o.s, .slice qo o.l.length co, .int .i64 o.room, .int .i64 o.fn] 96)
  have htA := ht.below hA
  have hsz := hB.size
  have hBA := hB.trans (hA.mono hsz)
  have hne : w.heap.size ≠ bt := by have := ht.lt; omega
  have hPA : PStep w0.heap.size bt w (w.alloc (.cells #[.int .u8 4, .string o.s, .slice qo o.l.length co, .int .i64 o.room, .int .i64 o.fn] 96)) := PStep.of_below hA hsz
  obtain ⟨⟨b0, b1, b2, b3, b4⟩, -⟩ := cell_row5 hbx
  have H0 := tput_in htA hBA.size ⟨([91] : List UInt8).toArray⟩ (by decide)
  have HX : Hid _ := hX
  clear hX
  go_enter Tryz.func248, Tryz.ntmps248
  go_wp2_with (first
    | (go_at_call 246; (with_reducible refine H0.mono ?_); clear H0; rintro e w1 hT; obtain ⟨rfl, l1, lg1, ht1, hp1, hP1⟩ := hT; have hP1' := hPA.trans hP1; have hbx1 := box_kept hbx hP1 hne))
  go_loopw [8] (fun k wr => ∃ (j : Nat) (l' : List UInt8) (lg' : Bool), k = .int .i64 j ∧ j ≤ o.l.length ∧ Tl w0.heap.size bt (.slice p S.length c) l' lg' wr ∧ PutR l lg ([91] ++ seqT 4 g (o.l.take j)) l' lg' ∧ PStep w0.heap.size bt w wr ∧ wr.heap[w.heap.size]? = some (.cells #[.int .u8 4, .string o.s, .slice qo o.l.length co, .int .i64 o.room, .int .i64 o.fn] 96 (0, 0))) (fun k _ => o.l.length - (intOf k).toNat)
  case atStart =>
    refine ⟨0, l1, lg1, rfl, by omega, ht1, ?_, hP1', hbx1⟩
    simpa [seqT] using hp1
  case round =>
    obtain ⟨j, l', lg', rfl, hj, ht', hp', hP', hbx'⟩ := hrel
    have hB' : Below w0.heap.size w0 wr := hB.trans hP'.bel
    have hsz' := hB'.size
    obtain ⟨⟨a0, a1, a2, a3, a4⟩, -⟩ := cell_row5 hbx'
    obtain ⟨vb, hblk, hown⟩ := ht'.all
    obtain ⟨⟨t0, t1, t2⟩, -⟩ := cell_row3' hblk
    by_cases hgo : j < o.l.length ∧ lg' = false
    · obtain ⟨hjl, rfl⟩ := hgo
      have hjl' : (j : Int) < (o.l.length : Int) := by omega
      obtain ⟨v, hvj⟩ : ∃ v, o.l[j]? = some v := ⟨o.l[j], by simp⟩
      have hvf := hfit v (List.mem_of_getElem? hvj)
      have hst := seqT_take (k := 4) (g := g) hvj
      obtain ⟨vb0, voff, eq0, hd0, hd1⟩ := hv j v hvj
      subst eq0
      have hvc := fun (W : World) (h : Below w0.heap.size w0 W) => show W.cell? ⟨vb0, voff + j * 2, none⟩ = some (.int .u8 v.k) ∧ W.cell? ⟨vb0, voff + j * 2 + 1, none⟩ = some (.int .i64 v.n) from
        ⟨(h.cell (p := ⟨vb0, voff + j * 2, none⟩) (World.block_lt_of_cell? w0 _ hd0)).trans hd0, (h.cell (p := ⟨vb0, voff + j * 2 + 1, none⟩) (World.block_lt_of_cell? w0 _ hd1)).trans hd1⟩
      have HG : Hid _ := And.intro hst (And.intro hp' hP')
      clear hst hp' hvj hd0 hd1 hown t1
      rcases (show 0 < j ∨ j = 0 by omega) with hc | hc
      · have hpj : (0 : Int) < (j : Int) := by omega
        have HH := tput_in ht' hsz' ⟨([44, 32] : List UInt8).toArray⟩ (by decide)
        go_wp2_with (first
          | (go_at_call 246; (with_reducible refine HH.mono ?_); clear HH; rintro e w2 hT; obtain ⟨rfl, l2, lg2, ht2, hp2, hP2⟩ := hT; have hB2 : Below w0.heap.size w0 w2 := hB'.trans hP2.bel; have hbx2 := box_kept hbx' hP2 hne; obtain ⟨⟨r0, r1, r2, r3, r4⟩, -⟩ := cell_row5 hbx2; obtain ⟨m0, m1⟩ := hvc w2 hB2; have HVV := HV w2 l2 lg2 v hvf hB2 ht2)
          | (go_at_call 177; (with_reducible refine HVV.mono ?_); clear HVV; rintro e w3 hT; obtain ⟨rfl, l3, lg3, ht3, hp3, hP3⟩ := hT))
        go_roundw
        case rel =>
          obtain ⟨hst, hp', hP'⟩ := HG.out
          refine ⟨j + 1, l3, lg3, by simp, by omega, ht3, ?_, (hP'.trans hP2).trans hP3, box_kept hbx2 hP3 hne⟩
          rw [hst]
          have e : aheadT 4 j = [44, 32] := by unfold aheadT; rw [if_neg (by omega), if_pos hc]; rfl
          rw [e]
          have := (hp'.trans hp2).trans hp3
          simpa [sepT, colT] using this
        case measure => simp [intOf]; omega
      · subst hc
        obtain ⟨m0, m1⟩ := hvc wr hB'
        simp only [Nat.zero_mul, Nat.add_zero] at m0 m1
        have HVV := HV wr l' false v hvf hB' ht'
        go_wp2_with (first
          | (go_at_call 177; (with_reducible refine HVV.mono ?_); clear HVV; rintro e w3 hT; obtain ⟨rfl, l3, lg3, ht3, hp3, hP3⟩ := hT))
        go_roundw
        case rel =>
          obtain ⟨hst, hp', hP'⟩ := HG.out
          refine ⟨0 + 1, l3, lg3, by simp, by omega, ht3, ?_, hP'.trans hP3, box_kept hbx' hP3 hne⟩
          rw [hst]
          have e : aheadT 4 0 = [] := by rfl
          rw [e]
          have := hp'.trans hp3
          simpa using this
        case measure => simp [intOf]; omega
    · -- no more is put
      have hfull : PutR l lg ([91] ++ seqT 4 g o.l) l' lg' := by
        by_cases hjl : j < o.l.length
        · have hlt : lg' = true := by
            cases lg' with
            | true => rfl
            | false => exact absurd ⟨hjl, rfl⟩ hgo
          subst hlt
          obtain ⟨r, hr⟩ := seqT_pre 4 g o.l j
          rw [hr, ← List.append_assoc]
          exact hp'.long r
        · have e : o.l.take j = o.l := List.take_of_length_le (by omega)
          rw [e] at hp'
          exact hp'
      have HG : Hid _ := And.intro hfull hP'
      have hor : ¬ ((j : Int) < (o.l.length : Int)) ∨ ((j : Int) < (o.l.length : Int) ∧ lg' = true) := by
        by_cases hjl : j < o.l.length
        · right
          refine ⟨by omega, ?_⟩
          cases lg' with
          | true => rfl
          | false => exact absurd ⟨hjl, rfl⟩ hgo
        · left; omega
      clear hfull hp' hgo hown t1
      have HE := tput_in ht' hsz' ⟨([93] : List UInt8).toArray⟩ (by decide)
      rcases hor with hq | ⟨hq, rfl⟩
      all_goals
          go_wp2_with (first
            | (go_at_call 246; (with_reducible refine HE.mono ?_); clear HE; rintro e w3 hT; obtain ⟨rfl, l3, lg3, ht3, hp3, hP3⟩ := hT))
          go_end0
          obtain ⟨hfull, hP'⟩ := HG.out
          refine ⟨rfl, l3, lg3, ht3, ?_, hP'.trans hP3⟩
          rw [HX.out]
          have := hfull.trans hp3
          simpa [List.append_assoc] using this

set_option maxRecDepth 20000 in
set_option maxHeartbeats 4000000 in
theorem trow_map (HV : TValC w0 bt c p S (d + 1) g) (hd : -1000 ≤ d ∧ d ≤ 1000) (w : World) (l : List UInt8) (lg : Bool) (o : Om) (qo : Option Addr) (co : Nat) (hfit : ∀ v ∈ o.l, v.fits) (hlen : o.l.length ≤ 1048576) (hk : o.k = 5) (hv : Vals w0 qo o.l) (hB : Below w0.heap.size w0 w) (ht : Tl w0.heap.size bt (.slice p S.length c) l lg w)
    (X : List UInt8) (hX : X = [123] ++ (seqT 5 g o.l ++ ((if o.l.length % 2 = 1 then [58, 32, 110, 105, 108] else []) ++ [125]))) :
    Calls Tryz.prog 248 #[.pointer (some ⟨bt, 0, none⟩), objV o qo co, .int .i64 d] w fun e w' => TPuts w0.heap.size bt (.slice p S.length c) l lg X w e w' := by
  unfold objV
  rw [hk]
  have hA := below1 w (.cells #[.int .u8 5, .string o.s, .slice qo o.l.length co, .int .i64 o.room, .int .i64 o.fn] 96)
  have hbx := heap_alloc_new w (.cells #[.int .u8 5, .string o.s, .slice qo o.l.length co, .int .i64 o.room, .int .i64 o.fn] 96)
  have htA := ht.below hA
  have hsz := hB.size
  have hBA := hB.trans (hA.mono hsz)
  have hne : w.heap.size ≠ bt := by have := ht.lt; omega
  have hPA : PStep w0.heap.size bt w (w.alloc (.cells #[.int .u8 5, .string o.s, .slice qo o.l.length co, .int .i64 o.room, .int .i64 o.fn] 96)) := PStep.of_below hA hsz
  obtain ⟨⟨b0, b1, b2, b3, b4⟩, -⟩ := cell_row5 hbx
  have H0 := tput_in htA hBA.size ⟨([123] : List UInt8).toArray⟩ (by decide)
  have HX : Hid _ := hX
  clear hX
  go_enter Tryz.func248, Tryz.ntmps248
  go_wp2_with (first
    | (go_at_call 246; (with_reducible refine H0.mono ?_); clear H0; rintro e w1 hT; obtain ⟨rfl, l1, lg1, ht1, hp1, hP1⟩ := hT; have hP1' := hPA.trans hP1; have hbx1 := box_kept hbx hP1 hne))
  go_loopw [8] (fun k wr => ∃ (j : Nat) (l' : List UInt8) (lg' : Bool), k = .int .i64 j ∧ j ≤ o.l.length ∧ Tl w0.heap.size bt (.slice p S.length c) l' lg' wr ∧ PutR l lg ([123] ++ seqT 5 g (o.l.take j)) l' lg' ∧ PStep w0.heap.size bt w wr ∧ wr.heap[w.heap.size]? = some (.cells #[.int .u8 5, .string o.s, .slice qo o.l.length co, .int .i64 o.room, .int .i64 o.fn] 96 (0, 0))) (fun k _ => o.l.length - (intOf k).toNat)
  case atStart =>
    refine ⟨0, l1, lg1, rfl, by omega, ht1, ?_, hP1', hbx1⟩
    simpa [seqT] using hp1
  case round =>
    obtain ⟨j, l', lg', rfl, hj, ht', hp', hP', hbx'⟩ := hrel
    have hB' : Below w0.heap.size w0 wr := hB.trans hP'.bel
    have hsz' := hB'.size
    obtain ⟨⟨a0, a1, a2, a3, a4⟩, -⟩ := cell_row5 hbx'
    obtain ⟨vb, hblk, hown⟩ := ht'.all
    obtain ⟨⟨t0, t1, t2⟩, -⟩ := cell_row3' hblk
    by_cases hgo : j < o.l.length ∧ lg' = false
    · obtain ⟨hjl, rfl⟩ := hgo
      have hjl' : (j : Int) < (o.l.length : Int) := by omega
      obtain ⟨v, hvj⟩ : ∃ v, o.l[j]? = some v := ⟨o.l[j], by simp⟩
      have hvf := hfit v (List.mem_of_getElem? hvj)
      have hst := seqT_take (k := 5) (g := g) hvj
      obtain ⟨vb0, voff, eq0, hd0, hd1⟩ := hv j v hvj
      subst eq0
      have hvc := fun (W : World) (h : Below w0.heap.size w0 W) => show W.cell? ⟨vb0, voff + j * 2, none⟩ = some (.int .u8 v.k) ∧ W.cell? ⟨vb0, voff + j * 2 + 1, none⟩ = some (.int .i64 v.n) from
        ⟨(h.cell (p := ⟨vb0, voff + j * 2, none⟩) (World.block_lt_of_cell? w0 _ hd0)).trans hd0, (h.cell (p := ⟨vb0, voff + j * 2 + 1, none⟩) (World.block_lt_of_cell? w0 _ hd1)).trans hd1⟩
      have HG : Hid _ := And.intro hst (And.intro hp' hP')
      clear hst hp' hvj hd0 hd1 hown t1
      rcases (show (j % 2 = 1) ∨ (j % 2 = 0 ∧ 0 < j) ∨ j = 0 by omega) with hc | ⟨hc, hc0⟩ | hc
      · have hm : Int.tmod (j : Int) 2 = 1 := by rw [Int.tmod_eq_emod_of_nonneg (by omega)]; omega
        have HH := tput_in ht' hsz' ⟨([58, 32] : List UInt8).toArray⟩ (by decide)
        go_wp2_with (first
          | (go_at_call 246; (with_reducible refine HH.mono ?_); clear HH; rintro e w2 hT; obtain ⟨rfl, l2, lg2, ht2, hp2, hP2⟩ := hT; have hB2 : Below w0.heap.size w0 w2 := hB'.trans hP2.bel; have hbx2 := box_kept hbx' hP2 hne; obtain ⟨⟨r0, r1, r2, r3, r4⟩, -⟩ := cell_row5 hbx2; obtain ⟨m0, m1⟩ := hvc w2 hB2; have HVV := HV w2 l2 lg2 v hvf hB2 ht2)
          | (go_at_call 177; (with_reducible refine HVV.mono ?_); clear HVV; rintro e w3 hT; obtain ⟨rfl, l3, lg3, ht3, hp3, hP3⟩ := hT))
        go_roundw
        case rel =>
          obtain ⟨hst, hp', hP'⟩ := HG.out
          refine ⟨j + 1, l3, lg3, by simp, by omega, ht3, ?_, (hP'.trans hP2).trans hP3, box_kept hbx2 hP3 hne⟩
          rw [hst]
          have e : aheadT 5 j = [58, 32] := by unfold aheadT; rw [if_pos ⟨rfl, hc⟩]; rfl
          rw [e]
          have := (hp'.trans hp2).trans hp3
          simpa [sepT, colT] using this
        case measure => simp [intOf]; omega
      · have hm : ¬ (Int.tmod (j : Int) 2 = 1) := by rw [Int.tmod_eq_emod_of_nonneg (by omega)]; omega
        have hpj : (0 : Int) < (j : Int) := by omega
        have HH := tput_in ht' hsz' ⟨([44, 32] : List UInt8).toArray⟩ (by decide)
        go_wp2_with (first
          | (go_at_call 246; (with_reducible refine HH.mono ?_); clear HH; rintro e w2 hT; obtain ⟨rfl, l2, lg2, ht2, hp2, hP2⟩ := hT; have hB2 : Below w0.heap.size w0 w2 := hB'.trans hP2.bel; have hbx2 := box_kept hbx' hP2 hne; obtain ⟨⟨r0, r1, r2, r3, r4⟩, -⟩ := cell_row5 hbx2; obtain ⟨m0, m1⟩ := hvc w2 hB2; have HVV := HV w2 l2 lg2 v hvf hB2 ht2)
          | (go_at_call 177; (with_reducible refine HVV.mono ?_); clear HVV; rintro e w3 hT; obtain ⟨rfl, l3, lg3, ht3, hp3, hP3⟩ := hT))
        go_roundw
        case rel =>
          obtain ⟨hst, hp', hP'⟩ := HG.out
          refine ⟨j + 1, l3, lg3, by simp, by omega, ht3, ?_, (hP'.trans hP2).trans hP3, box_kept hbx2 hP3 hne⟩
          rw [hst]
          have e : aheadT 5 j = [44, 32] := by unfold aheadT; rw [if_neg (by omega), if_pos hc0]; rfl
          rw [e]
          have := (hp'.trans hp2).trans hp3
          simpa [sepT, colT] using this
        case measure => simp [intOf]; omega
      · subst hc
        obtain ⟨m0, m1⟩ := hvc wr hB'
        simp only [Nat.zero_mul, Nat.add_zero] at m0 m1
        have HVV := HV wr l' false v hvf hB' ht'
        go_wp2_with (first
          | (go_at_call 177; (with_reducible refine HVV.mono ?_); clear HVV; rintro e w3 hT; obtain ⟨rfl, l3, lg3, ht3, hp3, hP3⟩ := hT))
        go_roundw
        case rel =>
          obtain ⟨hst, hp', hP'⟩ := HG.out
          refine ⟨0 + 1, l3, lg3, by simp, by omega, ht3, ?_, hP'.trans hP3, box_kept hbx' hP3 hne⟩
          rw [hst]
          have e : aheadT 5 0 = [] := by rfl
          rw [e]
          have := hp'.trans hp3
          simpa using this
        case measure => simp [intOf]; omega
    · -- no more is put
      have hfull : PutR l lg ([123] ++ seqT 5 g o.l) l' lg' := by
        by_cases hjl : j < o.l.length
        · have hlt : lg' = true := by
            cases lg' with
            | true => rfl
            | false => exact absurd ⟨hjl, rfl⟩ hgo
          subst hlt
          obtain ⟨r, hr⟩ := seqT_pre 5 g o.l j
          rw [hr, ← List.append_assoc]
          exact hp'.long r
        · have e : o.l.take j = o.l := List.take_of_length_le (by omega)
          rw [e] at hp'
          exact hp'
      have HG : Hid _ := And.intro hfull hP'
      have hor : ¬ ((j : Int) < (o.l.length : Int)) ∨ ((j : Int) < (o.l.length : Int) ∧ lg' = true) := by
        by_cases hjl : j < o.l.length
        · right
          refine ⟨by omega, ?_⟩
          cases lg' with
          | true => rfl
          | false => exact absurd ⟨hjl, rfl⟩ hgo
        · left; omega
      clear hfull hp' hgo hown t1
      by_cases hodd : o.l.length % 2 = 1
      · have hm : Int.tmod (o.l.length : Int) 2 = 1 := by rw [Int.tmod_eq_emod_of_nonneg (by omega)]; omega
        have HN := tput_in ht' hsz' ⟨([58, 32, 110, 105, 108] : List UInt8).toArray⟩ (by decide)
        have HE := fun (W : World) (l2 : List UInt8) (lg2 : Bool) (h : Tl w0.heap.size bt (.slice p S.length c) l2 lg2 W) (hz : w0.heap.size ≤ W.heap.size) => tput_in h hz ⟨([125] : List UInt8).toArray⟩ (by decide)
        rcases hor with hq | ⟨hq, rfl⟩
        all_goals
          go_wp2_with (first
            | (go_at_call_of 246 (Value.string ⟨#[58, 32, 110, 105, 108]⟩); (with_reducible refine HN.mono ?_); clear HN; rintro e w2 hT; obtain ⟨rfl, l2, lg2, ht2, hp2, hP2⟩ := hT; have hB2 : Below w0.heap.size w0 w2 := hB'.trans hP2.bel; have hz2 := hB2.size)
            | (go_at_call 246; (with_reducible refine (HE _ _ _ ht2 hz2).mono ?_); clear HE; rintro e w3 hT; obtain ⟨rfl, l3, lg3, ht3, hp3, hP3⟩ := hT))
          go_end0
          obtain ⟨hfull, hP'⟩ := HG.out
          refine ⟨rfl, l3, lg3, ht3, ?_, (hP'.trans hP2).trans hP3⟩
          rw [HX.out, if_pos hodd]
          have := (hfull.trans hp2).trans hp3
          simpa [List.append_assoc] using this
      · have hm : ¬ (Int.tmod (o.l.length : Int) 2 = 1) := by rw [Int.tmod_eq_emod_of_nonneg (by omega)]; omega
        have HE := tput_in ht' hsz' ⟨([125] : List UInt8).toArray⟩ (by decide)
        rcases hor with hq | ⟨hq, rfl⟩
        all_goals
          go_wp2_with (first
            | (go_at_call 246; (with_reducible refine HE.mono ?_); clear HE; rintro e w3 hT; obtain ⟨rfl, l3, lg3, ht3, hp3, hP3⟩ := hT))
          go_end0
          obtain ⟨hfull, hP'⟩ := HG.out
          refine ⟨rfl, l3, lg3, ht3, ?_, hP'.trans hP3⟩
          rw [HX.out, if_neg hodd]
          have := hfull.trans hp3
          simpa [List.append_assoc] using this

theorem trow_in (HV : TValC w0 bt c p S (d + 1) g) (hg : g ⟨0, 0⟩ = [110, 105, 108]) (hd : -1000 ≤ d ∧ d ≤ 1000) (hfit : ∀ o ∈ S, o.fits) (hll : ∀ o ∈ S, o.l.length ≤ 1048576) : TRowC w0 bt c p S d (rowT g) := by
  intro w l lg o qo co hoS hk hv hB ht
  have hx := row_text g hg o hk
  rcases hk with h | h
  · refine trow_list HV hd w l lg o qo co (hfit o hoS).2.1 (hll o hoS) h hv hB ht _ ?_
    rw [hx, if_neg (by omega), if_neg (by omega), if_neg (by omega), h]
  · refine trow_map HV hd w l lg o qo co (hfit o hoS).2.1 (hll o hoS) h hv hB ht _ ?_
    rw [hx, if_pos h, if_pos h, h]
    simp

theorem txtV_nil (S : List Om) (f : Nat) : txtV S f ⟨0, 0⟩ = [110, 105, 108] := by cases f <;> rfl

theorem tvalue_all (hs : IsSt w0 p S) (hl : S.length ≤ 1048576) (hstr : ∀ o ∈ S, o.s.size ≤ 1048576) (hfit : ∀ o ∈ S, o.fits) (hll : ∀ o ∈ S, o.l.length ≤ 1048576) : ∀ (f : Nat), f ≤ 9 → TValC w0 bt c p S (9 - (f : Int)) (txtV S f)
  | 0, _ => tval_in hs hl hstr hfit (by omega) (fun h => by simp at h) (fun _ => rfl)
  | f + 1, hf => by
    have ih := tvalue_all hs hl hstr hfit hll f (by omega)
    have e : (9 : Int) - (f : Int) = (9 - ((f + 1 : Nat) : Int)) + 1 := by omega
    rw [e] at ih
    exact tval_in hs hl hstr hfit (by omega) (fun _ => trow_in ih (txtV_nil S f) (by omega) hfit hll) (fun h => by omega)
end

end Go.Proofs.YtgokofomoachaaaGreatDoor
