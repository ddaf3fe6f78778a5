/- The document's reached. -/
import Derived.Test.YtampilfebmfhaaaGreatDoorRgMath
import Derived.Test.YtampilfebmfhaaaGreatDoorRgRoots
import Derived.Laws.AppendOwnNone
namespace Go.Proofs.YtampilfebmfhaaaGreatDoor
set_option linter.unusedVariables false
set_option linter.unusedSimpArgs false
open Go.RowKit

variable {n₀ br all en : Nat} {vo : Value} {w : World} {R : List (Ob × Value)}

/-- How many of a block's cells are false. -/
def isF : Value → Bool
  | .bool false => true
  | _ => false

def cntW (B : Nat) (w : World) : Nat :=
  match w.heap[B]? with
  | some (.cells cs _ _) => cs.toList.countP isF
  | _ => 0

def lenV : Value → Nat
  | .slice _ n _ => n
  | _ => 0

theorem isF_count : ∀ (In : List Bool), (In.map Value.bool).countP isF = unseen In
  | [] => rfl
  | x :: r => by
    have := isF_count r
    simp only [unseen] at this ⊢
    cases x <;> simp [List.countP_cons, isF, this]

theorem cntW_eq {w : World} {base B n : Nat} {In : List Bool} (h : w.ownsRow base 4 1 (.slice (some ⟨B, 0, none⟩) n n) n (In.map Value.bool)) : cntW B w = unseen In := by
  have hl : In.length = n := by simpa using h.1
  rcases h.2 with ⟨e, _⟩ | ⟨g, cap, cur, e, _, hg, _, _, hsz, ht⟩
  · simp at e
  · simp at e
    obtain ⟨rfl, rfl⟩ := e
    unfold cntW
    rw [hg]
    simp only
    rw [← isF_count, ← ht, List.take_of_length_le]
    simp at hsz ⊢; omega

/-- What stands in memory. -/
structure RSt (w : World) (n : Nat) (In : List Bool) (T : List Nat) (td : Value) (wr : World) : Prop where
  rin : wr.ownsRow w.heap.size 4 1 (.slice (some ⟨w.heap.size, 0, none⟩) n n) n (In.map Value.bool)
  rtd : wr.ownsRow w.heap.size 3 1 td T.length (T.map pv)
  bel : Below w.heap.size w wr

theorem RSt.below {w wr w' : World} {n : Nat} {In : List Bool} {T : List Nat} {td : Value} (h : RSt w n In T td wr) (hB : Below wr.heap.size wr w') : RSt w n In T td w' :=
  ⟨IsRf.row_kept h.rin (fun k e => hB.block k (h.rin.lt k e).2), IsRf.row_kept h.rtd (fun k e => hB.block k (h.rtd.lt k e).2), h.bel.trans (hB.mono h.bel.size)⟩

theorem RSt.app {w wr w5 : World} {n : Nat} {In : List Bool} {T T' : List Nat} {td td' : Value} {o : Obj} (h : RSt w n In T td wr) (hown : w5.ownsRow w.heap.size 3 1 td' T'.length (T'.map pv)) (hg : (wr.alloc o).grownBy w5 td.ownBlock) : RSt w n In T' td' w5 := by
  have h45 : ∀ k, k < wr.heap.size → some k ≠ td.ownBlock → w5.heap[k]? = wr.heap[k]? := fun k hk hn => (hg.block k (by simp; omega) hn).trans (Below.heap_alloc _ _ k hk)
  refine ⟨IsRf.row_kept h.rin (fun k e => h45 k (h.rin.lt k e).2 (fun e' => ?_)), hown, ?_⟩
  · obtain ⟨cur, hc⟩ := IsAr.row_type h.rin e
    obtain ⟨cur', hc'⟩ := IsAr.row_type h.rtd e'.symm
    rw [hc] at hc'; simp at hc'
  · have := h.bel.size
    exact (h.bel.alloc this o).trans (rbelow_grown hg (fun k e => (h.rtd.lt k e).1) (by simp; omega))

theorem RSt.app' {w wr w5 : World} {n : Nat} {In : List Bool} {T T' : List Nat} {td td' : Value} (h : RSt w n In T td wr) (hown : w5.ownsRow w.heap.size 3 1 td' T'.length (T'.map pv)) (hg : wr.grownBy w5 td.ownBlock) : RSt w n In T' td' w5 := by
  refine ⟨IsRf.row_kept h.rin (fun k e => hg.block k (h.rin.lt k e).2 (fun e' => ?_)), hown, ?_⟩
  · obtain ⟨cur, hc⟩ := IsAr.row_type h.rin e
    obtain ⟨cur', hc'⟩ := IsAr.row_type h.rtd e'.symm
    rw [hc] at hc'; simp at hc'
  · have := h.bel.size
    exact h.bel.trans (rbelow_grown hg (fun k e => (h.rtd.lt k e).1) (by omega))

theorem RSt.set {w wr : World} {n i : Nat} {In : List Bool} {T : List Nat} {td : Value} (h : RSt w n In T td wr) : RSt w n (In.set i true) T td (wr.setCell ⟨w.heap.size, i, none⟩ (.bool true)) := by
  have hs := h.rin.stored i (.bool true)
  refine ⟨by simpa [List.map_set] using hs.1, IsRf.row_kept h.rtd (fun k e => heap_setCell_other wr ⟨w.heap.size, i, none⟩ k _ (fun e' => ?_)), h.bel.setCell (p := ⟨w.heap.size, i, none⟩) (Nat.le_refl _) _⟩
  obtain ⟨cur, hc⟩ := IsAr.row_type h.rin (k := w.heap.size) rfl
  obtain ⟨cur', hc'⟩ := IsAr.row_type h.rtd e
  rw [e', hc] at hc'; simp at hc'

set_option maxRecDepth 20000 in
set_option maxHeartbeats 4000000 in
theorem rreached_in (h : IsRf n₀ br vo w all en R) (hs : Srt 0 (R.map Prod.fst)) (h64 : ∀ x ∈ R, ∀ y ∈ x.1.ws, y < 18446744073709551616) {p : Option Addr} {vs : List Vl} (c : Nat) (hv : Vals w p vs) (hlen : vs.length ≤ 1000000) :
    Calls Tryz.prog 25 #[.pointer (some ⟨br, 0, none⟩), .slice p vs.length c] w fun e w' => ∃ (S : List Bool) (q : Option Addr) (c : Nat), (∀ (i : Nat) (x : Ob × Value), R[i]? = some x → (S[i]? = some true ↔ Rch (R.map Prod.fst) vs x.1.at_)) ∧ S.length = R.length ∧
      e = .returned (.slice q R.length c) ∧ w'.ownsRow w.heap.size 4 1 (.slice q R.length c) R.length (S.map Value.bool) ∧ Below w.heap.size w w' := by
  have hle := h.le
  have hmk := makeBools R.length hle
  have hc := h.c2
  obtain ⟨po, co, rfl, _, _, hp⟩ := IsRf.row_some3 h.row
  go_enter Tryz.func25, Tryz.ntmps25
  go_wp2
  obtain ⟨W0, hW0⟩ : ∃ W0, w.alloc (.cells (madeCells #[.bool false] R.length) 4) = W0 := ⟨_, rfl⟩
  have hst0 : RSt w R.length (List.replicate R.length false) [] (.slice none 0 0) W0 := by
    refine ⟨?_, World.ownsRow_nil _ _ _ _, hW0 ▸ below1 w _⟩
    refine ⟨by simp, .inr ⟨w.heap.size, R.length, madeCells #[.bool false] R.length, by simp, Nat.le_refl _, hW0 ▸ heap_alloc_new w _, by simp, by unfold maxLen; omega, by simp [madeCells], ?_⟩⟩
    rw [madeCells_one]
    simp
  rw [hW0]
  clear hW0 hmk
  obtain ⟨i0, hi, hz0, hz1, hz2⟩ := info_parts info3
  go_loopw [6, 7] (fun td k wr => ∃ (pre rest : List Vl), k = .int .i64 pre.length ∧ vs = pre ++ rest ∧ RSt w R.length (List.replicate R.length false) (pre.flatMap (rootI R)) td wr) (fun _ k _ => vs.length - (intOf k).toNat)
  case atStart => exact ⟨[], vs, rfl, rfl, hst0⟩
  case round =>
    obtain ⟨pre, rest, rfl, hR, hS⟩ := hrel
    have hB := hS.bel
    cases rest with
    | nil =>
      have hR' : vs = pre := by simpa using hR
      have hq : ¬ ((pre.length : Int) < (vs.length : Int)) := by rw [hR']; omega
      have hw0 := RWalk.start hs vs
      rw [← hR'] at hS
      have hlr := rootI_len R vs
      clear hR hR' hst0 hB
      have hu0 := unseen_le (List.replicate R.length false)
      rw [List.length_replicate] at hu0
      go_wp2
      rename World => wo
      go_loopw [6] (fun td wr => ∃ (In : List Bool) (T : List Nat), RSt w R.length In T td wr ∧ RWalk R vs In T ∧ T.length + unseen In * 1048578 ≤ 1099514724928) (fun td wr => cntW w.heap.size wr * 1048578 + lenV td)
      case atStart => exact ⟨_, _, hS, hw0, by
        have : unseen (List.replicate R.length false) * 1048578 ≤ 1048576 * 1048578 := Nat.mul_le_mul_right _ (by omega)
        omega⟩
      case round =>
        obtain ⟨In, T, hS2, hwk, hbd⟩ := hrel
        have hcn := cntW_eq hS2.rin
        rcases eq_nil_or_snoc T with rfl | ⟨T', i, rfl⟩
        · obtain ⟨p1, c1, hv1, _, _⟩ := IsAr.row_form hS2.rtd
          subst hv1
          have hend := hwk.end hs
          have HF : Hid _ := And.intro hend hwk.len
          clear hend hcn
          go_wp2
          go_ret
          obtain ⟨f1, f2⟩ := HF.out
          exact ⟨In, some ⟨w.heap.size, 0, none⟩, R.length, f1, f2, rfl, hS2.rin, hS2.bel⟩
        · obtain ⟨gt, ct, hv1, hct1, hct2⟩ := IsAr.row_some hS2.rtd (by simp)
          subst hv1
          obtain ⟨x, hx, _⟩ := hwk.tlt i (by simp)
          have hilt := (List.getElem?_eq_some_iff.1 hx).1
          have hxm : x ∈ R := List.mem_of_getElem? hx
          have hIl := hwk.len
          have hrt := hS2.rtd
          have hTl : T'.length + 1 ≤ 1099514724928 := by simp at hbd; omega
          simp only [List.length_append, List.length_cons, List.length_nil, Nat.zero_add] at hrt hct1
          have d1 : wr.cell? ⟨gt, T'.length, none⟩ = some (.int .i64 i) := row_cell hrt (by simp [pv]) (by omega)
          have hrs := row_shorter' hrt (m := T'.length) (by omega)
          have hrs' : wr.ownsRow w.heap.size 3 1 (.slice (some ⟨gt, 0, none⟩) T'.length ct) T'.length (T'.map pv) := by simpa using hrs
          have hSs : RSt w R.length In T' (.slice (some ⟨gt, 0, none⟩) T'.length ct) wr := ⟨hS2.rin, hrs', hS2.bel⟩
          obtain ⟨bi, hbi⟩ : ∃ bi, In[i]? = some bi := ⟨In[i]'(by omega), by simp⟩
          have d2 : wr.cell? ⟨w.heap.size, i, none⟩ = some (.bool bi) := row_cell hS2.rin (by simp [hbi]) hilt
          have hml : lenV (.slice (some ⟨gt, 0, none⟩) (T' ++ [i]).length ct) = T'.length + 1 := by simp [lenV]
          obtain ⟨tn, htn⟩ : ∃ tn, T'.length = tn := ⟨_, rfl⟩
          have HT : Hid _ := htn
          simp only [List.length_append, List.length_cons, List.length_nil, Nat.zero_add]
          rw [htn] at d1 hTl hct1 ⊢
          have htn64 : (tn : Int) + 1 ≤ 1099514724928 := by omega
          clear hrs htn hrt
          cases bi with
          | true =>
            have HW : Hid _ := hwk.pass hbi
            clear hwk hv hS hw0
            go_wp2
            go_roundw
            case rel =>
              obtain rfl := HT.out
              exact ⟨In, T', hSs, HW.out, by simp at hbd; omega⟩
            case measure =>
              rw [hcn]
              simp only [lenV]
              omega
          | false =>
            have hun := unseen_set hbi
            have HW : Hid _ := hwk.mark hs hx
            have hSt := hSs.set (i := i)
            have hh := h.below hSt.bel
            have hcO := hh.c2
            obtain ⟨gO, rfl⟩ := hp (by omega)
            obtain ⟨o0, o1, o2⟩ := hh.elem hx
            obtain ⟨hw1, hw2⟩ := hh.wrds x hxm
            obtain ⟨gw, cw, hxv⟩ := wform hw1 hw2
            have H5 := rholds_in hh hs hxm (h64 x hxm)
            unfold agO at H5
            rw [hxv] at H5 o2
            have hfr : wr.frozen? ⟨w.heap.size, i, none⟩ = false := by
              obtain ⟨cur, hc'⟩ := IsAr.row_type hS2.rin (k := w.heap.size) rfl
              exact frozen_of_row wr _ i _ _ hc'
            have hhl := holdI_len R x.1
            have hwl := (h.bnd x hxm).2.1
            clear hwk hv hS hw0 hw1 hw2
            go_wp2_with (first
              | (go_at_call 124; refine H5.mono ?_; clear H5; rintro e w3 ⟨ph, ch, rfl, hrowh, hB3⟩; refine stop_here ?_))
            unfold Stopped
            have hS3 := hSt.below hB3
            have hcn3 := cntW_eq hS3.rin
            have hs3 := hS3.bel.size
            have hrt3 := hS3.rtd
            rw [HT.out] at hrt3
            obtain ⟨hn, hhn⟩ : ∃ hn, (holdI R x.1).length = hn := ⟨_, rfl⟩
            have HH : Hid _ := hhn
            rw [hhn] at hhl hrowh ⊢
            clear hhn
            have hun2 : (unseen (In.set i true) + 1) * 1048578 = unseen In * 1048578 := by rw [hun]
            rcases hrowh.2 with ⟨hv3, hn0⟩ | ⟨g3, cap3, cur3, hv3, hrest⟩
            · rw [hv3]
              go_wp2_with (first
                | (at_builtin; refine wpList_append_own_none rfl _ _ 107 rfl w.heap.size 3 i0 1 Tryz.underlying107 hi _ tn _ rfl hrt3 rfl ?_))
              go_roundw
              case rel =>
                obtain rfl := HT.out
                have e0 : holdI R x.1 = [] := List.eq_nil_of_length_eq_zero (by have := HH.out; omega)
                have hW := HW.out
                rw [e0, List.append_nil] at hW
                exact ⟨In.set i true, T', hS3, hW, by simp at hbd; omega⟩
              case measure =>
                rw [hcn, hcn3]
                simp only [lenV]
                omega
            · simp only [Value.slice.injEq] at hv3
              obtain ⟨rfl, _, rfl⟩ := hv3
              have hcl := hrowh.cells (g := g3) rfl
              have hln : ((holdI R x.1).map pv).length = hn * 1 := by have := HH.out; simp [this]
              go_wp2_with (first
                | (at_builtin; refine wpList_append_own _ rfl _ _ 107 rfl w.heap.size 3 i0 (.int .i64 0) 1 8 Tryz.underlying107 hi hz0 hz1 hz2 rfl (by decide) _ tn _ rfl hrt3 ⟨g3, 0, none⟩ hn _ ((holdI R x.1).map pv) rfl hln hcl (by intro u hu; obtain ⟨z, _, rfl⟩ := List.mem_map.1 hu; rfl) (by unfold maxLen; omega) (by omega) (by omega) ?_; intro v4 w4 hown4 hgrow4 _))
              go_roundw
              case rel =>
                obtain rfl := HT.out
                obtain rfl := HH.out
                refine ⟨In.set i true, T' ++ holdI R x.1, hS3.app' (by simpa using hown4) hgrow4, HW.out, ?_⟩
                simp at hbd ⊢; omega
              case measure =>
                obtain rfl := HT.out
                obtain rfl := HH.out
                have h5 := hS3.app' (T' := T' ++ holdI R x.1) (by simpa using hown4) hgrow4
                rw [hcn, cntW_eq h5.rin]
                obtain ⟨p5, c5, hv5, _, _⟩ := IsAr.row_form h5.rtd
                rw [hv5]
                simp only [lenV, List.length_append]
                omega
    | cons v rest =>
      have hlR : pre.length < vs.length := by rw [hR]; simp
      obtain ⟨b0, off, rfl, c0, c1⟩ := (hv.below hB) pre.length v (by rw [hR]; simp)
      have HR : Hid (vs = pre ++ v :: rest) := hR
      have H2 := rleads_in (h.below hB) hs v.k v.n
      have e1 : (((pre ++ [v]).length : Nat) : Int) = pre.length + 1 := by simp
      have hrl := rootI_len R pre
      clear hR hst0
      rcases leadI_neg hs v.k v.n with ⟨hL, q, e2, _⟩ | ⟨hL, e2⟩
      · have e3 : rootI R v = [q] := by
          unfold leadI at e2
          rw [if_pos hL] at e2
          unfold rootI
          rw [if_pos hL, e2]; rfl
        rw [e2] at H2
        have HG : Hid _ := e3
        obtain ⟨an, han⟩ : ∃ an, (pre.flatMap (rootI R)).length = an := ⟨_, rfl⟩
        have hrt := hS.rtd
        rw [han] at hrt hrl
        have HA : Hid _ := han
        clear hL e2 e3 han
        go_wp2_with (first
          | (go_at_call 103; refine H2.mono ?_; clear H2; rintro e w2 ⟨rfl, hB2⟩; have hrt2 := IsRf.row_kept hrt (fun k e => hB2.block k (hrt.lt k e).2); have hs2 := hB2.size; have hs1 := hB.size)
          | (at_builtin; refine wpList_append_own _ rfl _ _ 107 rfl w.heap.size 3 i0 (.int .i64 0) 1 8 Tryz.underlying107 hi hz0 hz1 hz2 rfl (by decide) _ an _ rfl (hrt2.alloc _) ⟨w2.heap.size, 0, none⟩ 1 1 [.int .i64 q] rfl rfl (cell_one_new _ _ _) (by simp [Value.oneCell']) (by unfold maxLen; omega) (by omega) (by simp; omega) ?_; intro v4 w4 hown4 hgrow4 _))
        go_roundw
        case rel =>
          have ha := HA.out
          subst ha
          refine ⟨pre ++ [v], rest, by rw [e1], by have := HR.out; simpa using this, (hS.below hB2).app (T' := (pre ++ [v]).flatMap (rootI R)) ?_ hgrow4⟩
          have e4 : (pre ++ [v]).flatMap (rootI R) = pre.flatMap (rootI R) ++ [q] := by have := HG.out; simp [this]
          rw [e4, List.map_append, show (pre.flatMap (rootI R) ++ [q]).length = (pre.flatMap (rootI R)).length + 1 from List.length_append]
          exact hown4
        case measure => simp [intOf]; omega
      · have e3 : rootI R v = [] := by
          unfold rootI
          rw [if_neg hL]
        rw [e2] at H2
        have HG : Hid _ := e3
        clear hL e2 e3
        go_wp2_with (first
          | (go_at_call 103; refine H2.mono ?_; clear H2; rintro e w2 ⟨rfl, hB2⟩))
        go_roundw
        case rel =>
          refine ⟨pre ++ [v], rest, by rw [e1], by have := HR.out; simpa using this, ?_⟩
          have e4 : (pre ++ [v]).flatMap (rootI R) = pre.flatMap (rootI R) := by have := HG.out; simp [this]
          rw [e4]
          exact hS.below hB2
        case measure => simp [intOf]; omega

end Go.Proofs.YtampilfebmfhaaaGreatDoor
