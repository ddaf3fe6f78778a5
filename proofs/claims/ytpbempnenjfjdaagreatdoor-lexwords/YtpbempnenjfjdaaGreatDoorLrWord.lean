/- The document's word at a place. -/
import Derived.Test.YtpbempnenjfjdaaGreatDoorLrNum
import Derived.Test.YtpbempnenjfjdaaGreatDoorLrText
import Derived.Test.YtpbempnenjfjdaaGreatDoorLrSign
namespace Go.Proofs.YtpbempnenjfjdaaGreatDoor
set_option linter.unusedVariables false
set_option linter.unusedSimpArgs false
open Go.RowKit

variable {w : World}

theorem results_row_tmp2 {P : Program} {fn : Func} {p u v : Tmp} {ty : TypeId} (h : fn.results = #[.cell p ty, .tmp u, .tmp v]) (tmps : Array Value) (w : World) (g : Nat) (t : TypeId) (cs : Array Value) (fr : Nat × Nat) (d : TypeDesc)
    (hp : tmps.getD p undef = .pointer (some ⟨g, 0, none⟩)) (hg : w.heap[g]? = some (.cells cs t fr))
    (hu : P.underlying ty = some d) (hd : (match d with | .struct _ | .array _ _ => true | _ => false) = true) (hi : (P.info? ty).map (·.size) = some cs.size) :
    (results fn tmps).run P w = .ok (.tuple #[.agg cs, tmps.getD u undef, tmps.getD v undef]) w := by
  have e : (results fn tmps).run P w =
      ((asAddr (tmps.getD p undef)).run P w).andThen fun a w₁ => ((loadVar ty a).run P w₁).andThen fun x w₂ => .ok (.tuple #[x, tmps.getD u undef, tmps.getD v undef]) w₂ := by
    simp only [results, h]
    simp [Sem.run_bind, Result.andThen]
  rw [e, hp]
  simp [asAddr, run_loadVar_row w g t ty cs fr d hg hu hd hi, Result.andThen]

/-- What the document's word answers. -/
def RRes (R : Option (Wd × List UInt8)) (L : Nat) (w : World) (e : Ending) (w' : World) : Prop :=
  ∃ (k : Int) (s : ByteArray) (n m en : Int) (ok : Bool), e = .returned (.tuple #[.agg #[.int .u8 k, .string s, .int .i64 n, .int .i64 m], .int .i64 en, .bool ok]) ∧ Below w.heap.size w w' ∧
    (match R with
      | none => ok = false
      | some (wd, z) => ok = true ∧ k = (wd.k : Int) ∧ s = bs wd.s ∧ n = wd.n ∧ m = 0 ∧ en = ((L - z.length : Nat) : Int))

theorem tw_dw (p : UInt8 → Bool) (l : List UInt8) : (l.takeWhile p).length + (l.dropWhile p).length = l.length := by
  induction l with
  | nil => rfl
  | cons d r ih =>
    by_cases hd : p d = true
    · simp only [List.takeWhile, List.dropWhile, hd, List.length_cons]; omega
    · simp [List.takeWhile, List.dropWhile, hd]

theorem rtw_take (p : UInt8 → Bool) (l : List UInt8) : l.take (l.takeWhile p).length = l.takeWhile p := by
  induction l with
  | nil => rfl
  | cons d r ih =>
    by_cases hd : p d = true
    · simp [List.takeWhile, hd, ih]
    · simp [List.takeWhile, hd]

theorem isL_isD {c : UInt8} (h : isD c = true) : isL c = false := by
  simp [isD] at h
  simp [isL]
  omega

set_option maxRecDepth 20000 in
set_option maxHeartbeats 8000000 in
theorem rword_in (l : List UInt8) (hl : l.length ≤ 65536) (a : Nat) (c : UInt8) (r : List UInt8) (hd : l.drop a = c :: r) (R : Option (Wd × List UInt8)) (hR : R = wordAt (c :: r)) (w : World) :
    Calls Tryz.prog 11 #[.string (bs l), .int .i64 a] w fun e w' => RRes R l.length w e w' := by
  have hlen : l.length = a + (r.length + 1) := by
    have := congrArg List.length hd
    simp at this
    omega
  have hca : l[a]? = some c := by
    have := congrArg List.head? hd
    simpa using this
  have hd1 : l.drop (a + 1) = r := by
    rw [← List.drop_drop, hd]
    rfl
  obtain ⟨hj, hcj⟩ := bs_at hca
  have hsz : (bs l).size = l.length := bs_size l
  have hA := below1 w (.cells #[.int .u8 0, .string ⟨#[]⟩, .int .i64 0, .int .i64 0] 56)
  have hz := heap_alloc_new w (.cells #[.int .u8 0, .string ⟨#[]⟩, .int .i64 0, .int .i64 0] 56)
  have hal' : a < l.length := by omega
  by_cases h34 : c.toNat = 34
  · -- a text
    have hq : ((c.toNat : Nat) : Int) = 34 := by omega
    have H := rtext_in l hl (a + 1) (by omega) (textAt r) (by rw [hd1])
    have hc := eq34.2 h34
    have hRR : R = match textAt r with | some (s, z) => if s.length ≤ 4096 then some (⟨3, s, 0, 0⟩, z) else none | none => none := by
      rw [hR, hc]
      rfl
    have HR : Hid _ := hRR
    clear hR hRR h34 hc hd hca hd1
    generalize textAt r = T at *
    generalize bs l = sv at *
    rw [show (((a + 1 : Nat) : Int)) = (a : Int) + 1 by omega] at H
    have hlen' : (a : Int) < (l.length : Int) := by omega
    go_enter Tryz.func11, Tryz.ntmps11
    go_wp2_with (first
      | (go_at_call 84; (with_reducible refine (H _).mono ?_); rintro e w2 ⟨s, n, ok, rfl, hB2, hm⟩; have hz2 := (hB2.block _ (Array.getElem?_eq_some_iff.1 hz).1).trans hz; have hB02 : Below w.heap.size w w2 := hA.trans (hB2.mono hA.size); have HM : Hid _ := hm; clear hm; obtain ⟨⟨c0, c1, c2, c3⟩, f0, f1, f2, f3⟩ := cell_row4 hz2))
    (try simp only [Exit.inBlock, Exit.then])
    refine bodyPost_ret (results_row_tmp2 (by rfl) _ _ w.heap.size 56 #[.int .u8 3, .string s, .int .i64 0, .int .i64 0] (0, 0) _ (by rfl) (set4_row hz2) Tryz.underlying56 (by rfl) infoWord) (by rfl) ?_
    refine ⟨3, s, 0, 0, n, ok, rfl, below_set4 hB02 (Nat.le_refl _) _ _ _ _, ?_⟩
    rw [HR.out]
    have hm := HM.out
    cases T with
    | none => exact hm
    | some y =>
      obtain ⟨t, z⟩ := y
      obtain ⟨rfl, rfl, rfl⟩ := hm
      by_cases ht : t.length ≤ 4096
      · simp [ht]
      · simp [ht]
  · have hq : ¬ (((c.toNat : Nat) : Int) = 34) := by omega
    have hc34 : ¬ c = 34 := fun e => h34 (eq34.1 e)
    have hlen' : (a : Int) < (l.length : Int) := by omega
    cases h1 : isD c with
    | true =>
      have h2 := isL_isD h1
      have hRR : R = (numV ((c :: r).takeWhile isN)).map (fun v => (⟨2, [], v, 0⟩, (c :: r).dropWhile isN)) := by rw [hR, wordAt_num h2 h1]
      have HD1 := rdigit_in c
      rw [h1] at HD1
      have HU := run_in l hl a (by omega)
      rw [hd] at HU
      have htd := tw_dw isN (c :: r)
      have htt := rtw_take isN (c :: r)
      have hN : (c :: r).takeWhile isN = c :: r.takeWhile isN := by simp [List.takeWhile, isN, h1]
      have hpc : (bs l).extract a (a + ((c :: r).takeWhile isN).length) = bs ((c :: r).takeWhile isN) := by
        rw [bs_piece, hd, Nat.add_sub_cancel_left, htt]
      rw [hN] at hRR HU htd hpc
      have hll : (c :: r).length = l.length - a := by simp; omega
      have hgl : (c :: r.takeWhile isN).length ≤ 65536 := by omega
      have HNm := fun (W : World) => rnumber_in h1 hgl W _ rfl
      generalize hdw : (c :: r).dropWhile isN = dw at *
      obtain ⟨E, hE⟩ : ∃ E, E = a + (c :: r.takeWhile isN).length := ⟨_, rfl⟩
      rw [← hE] at hpc HU
      have hEl : E + dw.length = l.length := by omega
      have hEa : a ≤ E := by omega
      have HR : Hid _ := hRR
      have hqE : (a : Int) ≤ (E : Int) := by omega
      have hqE2 : (E : Int) ≤ (l.length : Int) := by omega
      clear hR hRR h34 hc34 hd hca hd1 htd htt hE hN hll
      generalize c :: r.takeWhile isN = tk at *
      generalize bs l = sv at *
      generalize numV tk = nv at *
      go_enter Tryz.func11, Tryz.ntmps11
      go_wp2_with (first
        | (go_at_call 85; (with_reducible refine (HD1 _).mono ?_); rintro e w2 ⟨rfl, rfl⟩; generalize w.alloc (.cells #[.int .u8 0, .string ⟨#[]⟩, .int .i64 0, .int .i64 0] 56) = W1 at *; obtain ⟨⟨c0, c1, c2, c3⟩, f0, f1, f2, f3⟩ := cell_row4 hz)
        | (go_at_call 86; (with_reducible refine (HU _).mono ?_); rintro e w2 ⟨rfl, rfl⟩)
        | (go_at_call 87; (with_reducible refine (HNm _).mono ?_); rintro e w2 ⟨n, ok, rfl, rfl, hm⟩; have HM : Hid _ := hm; clear hm))
      (try simp only [Exit.inBlock, Exit.then])
      refine bodyPost_ret (results_row_tmp2 (by rfl) _ _ w.heap.size 56 #[.int .u8 2, .string ⟨#[]⟩, .int .i64 n, .int .i64 0] (0, 0) _ (by rfl) (set4_row hz) Tryz.underlying56 (by rfl) infoWord) (by rfl) ?_
      refine ⟨2, ⟨#[]⟩, n, 0, E, ok, rfl, below_set4 hA (Nat.le_refl _) _ _ _ _, ?_⟩
      rw [HR.out]
      have hm := HM.out
      cases nv with
      | none => exact hm
      | some v =>
        obtain ⟨rfl, rfl⟩ := hm
        refine ⟨rfl, rfl, rfl, rfl, rfl, ?_⟩
        show (E : Int) = ((l.length - dw.length : Nat) : Int)
        omega
    | false =>
      have HD1 := rdigit_in c
      rw [h1] at HD1
      cases h2 : isL c with
      | true =>
        have hRR : R = if ((c :: r).takeWhile isN).length ≤ 4096 then some (⟨1, (c :: r).takeWhile isN, 0, 0⟩, (c :: r).dropWhile isN) else none := by rw [hR, wordAt_name h2]
        have HL1 := rletter_in c
        rw [h2] at HL1
        have HU := run_in l hl a (by omega)
        rw [hd] at HU
        have htd := tw_dw isN (c :: r)
        have htt := rtw_take isN (c :: r)
        have hpc : (bs l).extract a (a + ((c :: r).takeWhile isN).length) = bs ((c :: r).takeWhile isN) := by
          rw [bs_piece, hd, Nat.add_sub_cancel_left, htt]
        have hll : (c :: r).length = l.length - a := by simp; omega
        generalize hdw : (c :: r).dropWhile isN = dw at *
        generalize hTK : (c :: r).takeWhile isN = tk at *
        obtain ⟨E, hE⟩ : ∃ E, E = a + tk.length := ⟨_, rfl⟩
        rw [← hE] at hpc HU
        have hEl : E + dw.length = l.length := by omega
        have hEa : a ≤ E := by omega
        have HR : Hid _ := And.intro hRR hE
        have hqE : (a : Int) ≤ (E : Int) := by omega
        have hqE2 : (E : Int) ≤ (l.length : Int) := by omega
        clear hR hRR h34 hc34 hd hca hd1 htd htt hE hll hTK hdw
        generalize bs l = sv at *
        go_enter Tryz.func11, Tryz.ntmps11
        go_wp2_with (first
          | (go_at_call 85; (with_reducible refine (HD1 _).mono ?_); rintro e w2 ⟨rfl, rfl⟩; generalize w.alloc (.cells #[.int .u8 0, .string ⟨#[]⟩, .int .i64 0, .int .i64 0] 56) = W1 at *; obtain ⟨⟨c0, c1, c2, c3⟩, f0, f1, f2, f3⟩ := cell_row4 hz)
          | (go_at_call 88; (with_reducible refine (HL1 _).mono ?_); rintro e w2 ⟨rfl, rfl⟩)
          | (go_at_call 86; (with_reducible refine (HU _).mono ?_); rintro e w2 ⟨rfl, rfl⟩))
        (try simp only [Exit.inBlock, Exit.then])
        refine bodyPost_ret (results_row_tmp2 (by rfl) _ _ w.heap.size 56 #[.int .u8 1, .string (bs tk), .int .i64 0, .int .i64 0] (0, 0) _ (by rfl) (set4_row hz) Tryz.underlying56 (by rfl) infoWord) (by rfl) ?_
        refine ⟨1, bs tk, 0, 0, E, decide (tk.length ≤ 4096), ?_, below_set4 hA (Nat.le_refl _) _ _ _ _, ?_⟩
        · have e : decide ((E : Int) - (a : Int) ≤ 4096) = decide (tk.length ≤ 4096) := by
            have := HR.out.2
            rw [Bool.eq_iff_iff]; simp; omega
          show Ending.returned (.tuple #[.agg _, .int .i64 (E : Int), .bool (decide ((E : Int) - (a : Int) ≤ 4096))]) = _
          rw [e]
        · rw [HR.out.1]
          by_cases hq : tk.length ≤ 4096
          · simp [hq]; omega
          · simp [hq]
      | false =>
        have hRR : R = (signAt (c :: r)).map (fun x => (⟨4, x.1, 0, 0⟩, x.2)) := by
          rw [hR, wordAt, if_neg (by simp [h2]), if_neg (by simp [h1]), if_neg hc34]
        rw [sign_eq] at hRR
        have HL1 := rletter_in c
        rw [h2] at HL1
        have HS := rsign_in l hl a c r hd
        have hsl : (sgP (c :: r)).length ≤ r.length + 1 := by
          simp only [sgP]
          split
          · rename_i h
            cases r with
            | nil => simp at h
            | cons x t => simp
          · split <;> simp
        have hll : (c :: r).length = r.length + 1 := rfl
        generalize sgP (c :: r) = sg at *
        have HR : Hid _ := hRR
        clear hR hRR h34 hc34 hd hca hd1
        have hss : (bs sg).size = sg.length := bs_size sg
        generalize bs l = sv at *
        cases sg with
        | nil =>
          have hnil : bs [] = ⟨#[]⟩ := rfl
          rw [hnil] at HS hss
          go_enter Tryz.func11, Tryz.ntmps11
          go_wp2_with (first
            | (go_at_call 85; (with_reducible refine (HD1 _).mono ?_); rintro e w2 ⟨rfl, rfl⟩; generalize w.alloc (.cells #[.int .u8 0, .string ⟨#[]⟩, .int .i64 0, .int .i64 0] 56) = W1 at *; obtain ⟨⟨c0, c1, c2, c3⟩, f0, f1, f2, f3⟩ := cell_row4 hz)
            | (go_at_call 88; (with_reducible refine (HL1 _).mono ?_); rintro e w2 ⟨rfl, rfl⟩)
            | (go_at_call 89; (with_reducible refine (HS _).mono ?_); rintro e w2 ⟨rfl, rfl⟩))
          (try simp only [Exit.inBlock, Exit.then])
          refine bodyPost_ret (results_row_tmp2 (by rfl) _ _ w.heap.size 56 #[.int .u8 4, .string ⟨#[]⟩, .int .i64 0, .int .i64 0] (0, 0) _ (by rfl) (set4_row hz) Tryz.underlying56 (by rfl) infoWord) (by rfl) ?_
          refine ⟨4, ⟨#[]⟩, 0, 0, _, false, rfl, below_set4 hA (Nat.le_refl _) _ _ _ _, ?_⟩
          rw [HR.out]
          rfl
        | cons s0 st =>
          have hie : (bs (s0 :: st)).toList.isEmpty = false := by rw [bs_toList]; rfl
          have hne : ¬ (bs (s0 :: st) = ⟨#[]⟩) := fun e => by
            have := bs_inj (b := []) e
            cases this
          have hsl2 : (s0 :: st).length ≤ 65536 := by omega
          generalize hg : (s0 :: st).length = sl at *
          generalize hbg : bs (s0 :: st) = sb at *
          go_enter Tryz.func11, Tryz.ntmps11
          go_wp2_with (first
            | (go_at_call 85; (with_reducible refine (HD1 _).mono ?_); rintro e w2 ⟨rfl, rfl⟩; generalize w.alloc (.cells #[.int .u8 0, .string ⟨#[]⟩, .int .i64 0, .int .i64 0] 56) = W1 at *; obtain ⟨⟨c0, c1, c2, c3⟩, f0, f1, f2, f3⟩ := cell_row4 hz)
            | (go_at_call 88; (with_reducible refine (HL1 _).mono ?_); rintro e w2 ⟨rfl, rfl⟩)
            | (go_at_call 89; (with_reducible refine (HS _).mono ?_); rintro e w2 ⟨rfl, rfl⟩))
          (try simp only [Exit.inBlock, Exit.then])
          refine bodyPost_ret (results_row_tmp2 (by rfl) _ _ w.heap.size 56 #[.int .u8 4, .string sb, .int .i64 0, .int .i64 0] (0, 0) _ (by rfl) (set4_row hz) Tryz.underlying56 (by rfl) infoWord) (by rfl) ?_
          refine ⟨4, sb, 0, 0, (a : Int) + (sl : Int), true, ?_, below_set4 hA (Nat.le_refl _) _ _ _ _, ?_⟩
          · first | rfl | (simp [hne]; done) | skip
          · rw [HR.out]
            simp only [List.cons_ne_nil, if_false, Option.map_some]
            refine ⟨by first | rfl | trivial, by first | rfl | trivial, hbg.symm, by first | rfl | trivial, by first | rfl | trivial, ?_⟩
            rw [List.length_drop, hll]
            omega

end Go.Proofs.YtpbempnenjfjdaaGreatDoor
