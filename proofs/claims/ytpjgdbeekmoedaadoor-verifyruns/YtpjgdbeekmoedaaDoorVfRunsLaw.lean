/- VerifyRuns: the walk. -/
import Derived.Test.YtpjgdbeekmoedaaDoorVfRuns0
import Derived.Test.YtpjgdbeekmoedaaDoorVfGreat
import Derived.Deep.Cut
namespace Go.Proofs.YtpjgdbeekmoedaaDoor
set_option linter.unusedVariables false
set_option linter.unusedSimpArgs false
open Go.RowKit

variable {w : World}

def Halted3 (p : Prop) : Prop := p

theorem halt_here3 {p : Prop} (h : Halted3 p) : p := h

set_option maxRecDepth 20000 in
set_option maxHeartbeats 16000000 in
theorem verifyRuns_walk (p : Option Addr) (l : List Fm) (c : Nat) (fn : Int) (q : Option Addr) (chs : List Nat) (cq : Nat) (w : World) (hs : IsFns w p l) (hlen : l.length ≤ 140737488355328) (hc : ∀ f ∈ l, CameF f ∧ FitF f) (hch : RowAt u8C 1 w q chs) (hchl : chs.length ≤ 140737488355328) (hch8 : ∀ x ∈ chs, x < 256) (ht : RowsT w) :
    Calls Tryd.prog 4 #[.slice p l.length c, .int .i64 fn, .slice q chs.length cq] w fun e w' => e = .returned (.bool true) ∧ Below w.heap.size w w' := by
  have HT : Hid (RowsT w) := ht
  clear ht
  have HA0 := fun (W : World) (h : Below w.heap.size w W) => alive_in W (HT.out.below h)
  have H1 := fun (W : World) (h : Below w.heap.size w W) => great_in (w := W) c (hs.below h) hlen (fun f hf => (hc f hf).1)
  have HFIT : Hid (∀ f ∈ l, FitF f) := fun f hf => (hc f hf).2
  have HS : Hid _ := hs
  have HCH : Hid _ := hch
  have HC8 : Hid _ := hch8
  clear hs hc hch hch8
  go_enter Tryd.func4, Tryd.ntmps4
  go_wp2_with (first
    | (go_at_call 11; (with_reducible refine (HA0 _ (Below.refl _ _)).mono ?_); rintro e w1 ⟨rfl, hB1⟩)
    | (go_at_call 6; (with_reducible refine (H1 _ hB1).mono ?_); clear H1; rintro e w2 ⟨b, rfl, hsm0, hB2⟩; refine halt_here3 ?_))
  unfold Halted3
  have k2 := hB1.trans (hB2.mono hB1.size)
  cases b with
  | true =>
    clear hsm0
    go_wp2_with (first
      | (go_at_call 11; (with_reducible refine (HA0 _ k2).mono ?_); rintro e w3 ⟨rfl, hB3⟩))
    go_ret
    exact ⟨rfl, k2.trans (hB3.mono k2.size)⟩
  | false =>
    have hsm := hsm0 rfl
    clear hsm0
    have HSM : Hid _ := hsm
    have H2 := pdepths_in (w := w2) c fn (IsFns.below HS.out k2) hsm HFIT.out (HT.out.below k2)
    clear hsm
    by_cases hc0 : chs.length = 0
    · have hc0' : ((chs.length : Int) == 0) = true := by rw [hc0]; rfl
      clear hc0 H2
      go_wp2_with (first
        | (go_at_call 11; (with_reducible refine (HA0 _ k2).mono ?_); rintro e w3 ⟨rfl, hB3⟩))
      go_ret
      exact ⟨rfl, k2.trans (hB3.mono k2.size)⟩
    have hc0' : ((chs.length : Int) == 0) = false := by rw [beq_eq_false_iff_ne]; omega
    clear HA0
    cases hdv : depthsV l fn with
    | error n =>
      have hn : n = 8 ∨ n = 1 := by
        unfold depthsV at hdv
        split at hdv
        · cases hdv; exact .inl rfl
        · split at hdv
          · cases hdv; exact .inr rfl
          · split at hdv
            · split at hdv <;> cases hdv
            · cases hdv; exact .inr rfl
      have H3 : Calls Tryd.prog 12 #[.slice p l.length c, .int .i64 fn] w2 fun e w' => e = .returned (.tuple #[.slice none 0 0, .int .i64 (n : Nat)]) ∧ Below w2.heap.size w2 w' := H2.mono (fun e w' hh => ⟨by have := hh.1; unfold DepthsR at this; rw [hdv] at this; exact this, hh.2⟩)
      clear H2 hdv
      have hn0 : ((n : Int) != 0) = true := by simp; omega
      have hn1 : ((n : Int) == 0) = false := by rw [beq_eq_false_iff_ne]; omega
      clear hn
      go_wp2_with (first
        | (go_at_call 12; (with_reducible refine H3.mono ?_); clear H3; rintro e w3 ⟨rfl, hB3⟩))
      go_ret
      exact ⟨rfl, k2.trans (hB3.mono k2.size)⟩
    | ok told =>
      have H3 : Calls Tryd.prog 12 #[.slice p l.length c, .int .i64 fn] w2 fun e w' => ∃ g cg, e = .returned (.tuple #[.slice (some ⟨g, 0, none⟩) told.length cg, .int .i64 0]) ∧ NumRow w2.heap.size g cg told w' ∧ Below w2.heap.size w2 w' := H2.mono (fun e w' hh => by
        have := hh.1
        unfold DepthsR at this
        rw [hdv] at this
        obtain ⟨g, cg, h1, h2⟩ := this
        exact ⟨g, cg, h1, h2, hh.2⟩)
      clear H2
      obtain ⟨k, f, rfl, hf, hok, hdp⟩ : ∃ (k : Nat) (f : Fm), fn = k ∧ l[k]? = some f ∧ CodeOk f ∧ depthsP f = .ok told := by
        unfold depthsV at hdv
        split at hdv
        · cases hdv
        · rename_i h0
          split at hdv
          · cases hdv
          · rename_i h1
            obtain ⟨k, rfl⟩ : ∃ k : Nat, fn = k := ⟨fn.toNat, by omega⟩
            simp only [Int.toNat_natCast] at hdv
            cases hf : l[k]? with
            | none => rw [hf] at hdv; cases hdv
            | some f =>
              rw [hf] at hdv
              simp only at hdv
              obtain ⟨h2, told', h3⟩ := check_ok (by simpa using h0) (fun f hf => (HFIT.out f hf).code) f (List.mem_of_getElem? hf)
              rw [h3] at hdv
              cases hdv
              exact ⟨k, f, rfl, hf, h2, h3⟩
      obtain ⟨hcl, hz0, htl⟩ := depths_closed hok hdp
      have hkl : (k : Int) < (l.length : Int) := by have := (List.getElem?_eq_some_iff.1 hf).1; omega
      obtain ⟨b0, off, s, hp, hv, hcs⟩ := IsFns.look0 HS.out hf
      have HV : Hid _ := hv
      have HCS : Hid _ := hcs
      have HOK : Hid _ := hok
      have HCL : Hid _ := hcl
      have HTL : Hid _ := htl
      have hn1 := hok.len1
      have hn2 := hok.len
      have hn3 := hok.hsn
      have AT0 : Hid (At f told 0 0) := ⟨by omega, hz0, by omega, by omega⟩
      subst hp
      clear hdv hf hok hdp hcl hz0 htl hv hcs
      go_wp2_with (first
        | (go_at_call 12; (with_reducible refine H3.mono ?_); clear H3; rintro e w3 ⟨g, cg, rfl, hrow, hB3⟩; have k3 := k2.trans (hB3.mono k2.size); obtain ⟨c0, c1, c2, c3, c4, c5, c6, c7⟩ := HCS.out _ k3))
      have rn0 : Rn w (w3.alloc (.cells #[.string f.name, .int .i64 f.params, .int .i64 f.locals, .slice s.qc f.caps.length s.cc, .slice s.qk f.consts.length s.ck, .slice s.qi f.code.length s.ci, .slice s.ql f.lines.length s.cl, .slice s.qh f.hs.length s.ch] 40)) f s w3.heap.size g cg told := ⟨k3.alloc k3.size _, heap_alloc_new w3 _, row_mono2 (hrow.kept (Below.heap_alloc _ _ _ hrow.lt.2)) k2.size⟩
      go_loopw [10, 11, 12] (fun s10 s11 s12 wr => ∃ (pc : Nat) (d : Int) (i : Nat), s10 = .int .i64 pc ∧ s11 = .int .i64 d ∧ s12 = .int .i64 i ∧ i ≤ 300 ∧ At f told pc d ∧ Rn w wr f s w3.heap.size g cg told) (fun _ _ k _ => 300 - (intOf k).toNat)
      case atStart => exact ⟨0, 0, 0, rfl, rfl, rfl, by omega, AT0.out, rn0⟩
      case round =>
        clear rn0 AT0
        obtain ⟨pc, d, i, rfl, rfl, rfl, hi3, hat, rn⟩ := hrel
        by_cases hi : i < 300
        · have hi' : (i : Int) < 300 := by omega
          have HAT : Hid _ := hat
          obtain ⟨hpc, htd, hd0, hd256⟩ := hat
          obtain ⟨x, hx⟩ : ∃ x, f.code[pc]? = some x := ⟨f.code[pc], by simp⟩
          obtain ⟨bx, ox, hq, i0, i1⟩ := HV.out.code.look2 rn.bel hx
          obtain ⟨⟨x0, x1, x2, x3, x4, x5, x6, x7⟩, -⟩ := cell_row8 rn.fb
          rw [hq] at x5
          have HQ : Hid _ := hq
          have tcell := rn.row.at (j := pc) (x := d) (by rw [List.getD_eq_getElem?_getD] at htd; cases hh : told[pc]? with | none => rw [List.getElem?_eq_none_iff] at hh; have := HTL.out; omega | some y => rw [hh] at htd; simp at htd; rw [htd])
          have hpc' : (pc : Int) < (f.code.length : Int) := by omega
          have hpt' : (pc : Int) < (told.length : Int) := by have := HTL.out; omega
          obtain ⟨ch, hch⟩ : ∃ ch, chs[i % chs.length]? = some ch := ⟨chs[i % chs.length]'(Nat.mod_lt _ (by omega)), by simp⟩
          have hch8 := HC8.out ch (List.mem_of_getElem? hch)
          have hJl : i % chs.length < chs.length := Nat.mod_lt _ (by omega)
          obtain ⟨J, hJ⟩ : ∃ J, i % chs.length = J := ⟨_, rfl⟩
          rw [hJ] at hJl
          have hJ1 : (i : Int) % (chs.length : Int) = (J : Int) := by rw [← hJ]; simp
          have hJ2 : (i : Int).tmod (chs.length : Int) = (J : Int) := by rw [← hJ1, Int.tmod_eq_emod_of_nonneg (by omega)]
          have hJl' : (J : Int) < (chs.length : Int) := by omega
          have NX : Hid _ := at_next HOK.out HCL.out hx HAT.out
          obtain ⟨op, a⟩ := x
          simp only at i0 i1
          have hop := HOK.out.op _ (List.mem_of_getElem? hx)
          simp only at hop
          have HI : Hid _ := hx
          have RN : Hid (Rn w (wr.alloc (.cells #[.int .u8 op, .int .i64 a] 43)) f s w3.heap.size g cg told) := rn.below (below1 _ _)
          obtain ⟨bq, oq, hqq, ccell⟩ := RowAt.lookU HCH.out RN.out.bel hch
          rw [hJ] at ccell
          have hd0n : ¬ (d < 0) := by omega
          have hd256n : ¬ (256 < d) := by omega
          subst hqq
          clear hq hx htd hJ hch rn
          go_upto_region 15 with fail
          by_cases hc8 : ch % 8 = 0
          · have hc81 : ((ch : Int) % 8 == 0) = true := by rw [beq_iff_eq]; omega
            have hc82 : ((ch : Int).tmod 8 == 0) = true := by rw [beq_iff_eq, Int.tmod_eq_emod_of_nonneg (by omega)]; omega
            as_aux_lemma =>
              have HFA : Hid (FnAt w f s) := HV.out
              clear ccell tcell
              go_upto_region 18 with fail
              go_loopw [11, 15, 16] (fun s11 s15 s16 wq => ∃ (k : Nat) (d1 a1 : Int), s11 = .int .i64 d1 ∧ s15 = .int .i64 a1 ∧ s16 = .int .i64 k ∧ k ≤ f.hs.length ∧ ((a1 = -1 ∧ d1 = d) ∨ (0 ≤ a1 ∧ At f told a1.toNat d1)) ∧ Rn w wq f s w3.heap.size g cg told) (fun _ _ kk _ => f.hs.length - (intOf kk).toNat)
              case atStart => exact ⟨0, d, -1, rfl, rfl, rfl, by omega, .inl ⟨rfl, rfl⟩, RN.out⟩
              case round =>
                obtain ⟨k, d1, a1, rfl, rfl, rfl, hkl, hor, rn⟩ := hrel
                rename World => wq
                obtain ⟨⟨x0, x1, x2, x3, x4, x5, x6, x7⟩, -⟩ := cell_row8 rn.fb
                clear RN
                have RN : Hid _ := rn
                clear rn
                rcases hor with ⟨rfl, rfl⟩ | ⟨ha0, hat1⟩
                · by_cases hk : k < f.hs.length
                  · have hk' : (k : Int) < (f.hs.length : Int) := by omega
                    obtain ⟨x, hx⟩ : ∃ x, f.hs[k]? = some x := ⟨f.hs[k], by simp⟩
                    obtain ⟨bh, oh, hqh, e0, e1, e2, e3⟩ := HFA.out.hs.lookH RN.out.bel hx
                    rw [hqh] at x7
                    have hok := HOK.out.hs x (List.mem_of_getElem? hx)
                    have HX : Hid _ := hx
                    have hdp : IntKind.i64.wrap (x.deep + 1) = x.deep + 1 := by rw [IntKind.wrap_i64]; omega
                    by_cases g1 : x.fr ≤ (pc : Int)
                    · by_cases g2 : (pc : Int) < x.to
                      · have hca : Hid _ := at_caught HOK.out HCL.out HI.out HAT.out (List.mem_of_getElem? hx) g1 g2
                        have ha0 : 0 ≤ x.at_ := by omega
                        have RN2 : Hid (Rn w (wq.alloc (.cells #[.int .i64 x.fr, .int .i64 x.to, .int .i64 x.at_, .int .i64 x.deep] 45)) f s w3.heap.size g cg told) := RN.out.below (below1 _ _)
                        clear hx hqh
                        go_wp2
                        go_roundw
                        case rel => exact ⟨k + 1, x.deep + 1, x.at_, rfl, rfl, by simp, by omega, .inr ⟨ha0, hca.out⟩, RN2.out⟩
                        case measure => simp [intOf]; omega
                      · have RN2 : Hid (Rn w (wq.alloc (.cells #[.int .i64 x.fr, .int .i64 x.to, .int .i64 x.at_, .int .i64 x.deep] 45)) f s w3.heap.size g cg told) := RN.out.below (below1 _ _)
                        clear hx hqh
                        go_wp2
                        go_roundw
                        case rel => exact ⟨k + 1, d1, -1, rfl, rfl, by simp, by omega, .inl ⟨rfl, rfl⟩, RN2.out⟩
                        case measure => simp [intOf]; omega
                    · have RN2 : Hid (Rn w (wq.alloc (.cells #[.int .i64 x.fr, .int .i64 x.to, .int .i64 x.at_, .int .i64 x.deep] 45)) f s w3.heap.size g cg told) := RN.out.below (below1 _ _)
                      clear hx hqh
                      go_wp2
                      go_roundw
                      case rel => exact ⟨k + 1, d1, -1, rfl, rfl, by simp, by omega, .inl ⟨rfl, rfl⟩, RN2.out⟩
                      case measure => simp [intOf]; omega
                  · have hk' : ¬ ((k : Int) < (f.hs.length : Int)) := by omega
                    go_wp2
                    go_ret
                    exact ⟨rfl, RN.out.bel⟩
                · have ha0' : ¬ (a1 < 0) := by omega
                  obtain ⟨A, rfl⟩ : ∃ A : Nat, a1 = A := ⟨a1.toNat, by omega⟩
                  by_cases hk : k < f.hs.length
                  · have hk' : (k : Int) < (f.hs.length : Int) := by omega
                    go_wp2
                    go_roundw
                    case rel => exact ⟨A, d1, i + 1, rfl, rfl, by simp, by omega, by simpa using hat1, RN.out⟩
                    case measure => simp [intOf]; omega
                  · have hk' : ¬ ((k : Int) < (f.hs.length : Int)) := by omega
                    go_wp2
                    go_roundw
                    case rel => exact ⟨A, d1, i + 1, rfl, rfl, by simp, by omega, by simpa using hat1, RN.out⟩
                    case measure => simp [intOf]; omega
          · have hc81 : ((ch : Int) % 8 == 0) = false := by rw [beq_eq_false_iff_ne]; omega
            have hc82 : ((ch : Int).tmod 8 == 0) = false := by rw [beq_eq_false_iff_ne, Int.tmod_eq_emod_of_nonneg (by omega)]; omega
            by_cases h29 : op = 29
            · subst h29
              as_aux_lemma =>
                have HFA : Hid (FnAt w f s) := HV.out
                clear ccell tcell
                go_upto_region 18 with fail
                go_loopw [11, 15, 16] (fun s11 s15 s16 wq => ∃ (k : Nat) (d1 a1 : Int), s11 = .int .i64 d1 ∧ s15 = .int .i64 a1 ∧ s16 = .int .i64 k ∧ k ≤ f.hs.length ∧ ((a1 = -1 ∧ d1 = d) ∨ (0 ≤ a1 ∧ At f told a1.toNat d1)) ∧ Rn w wq f s w3.heap.size g cg told) (fun _ _ kk _ => f.hs.length - (intOf kk).toNat)
                case atStart => exact ⟨0, d, -1, rfl, rfl, rfl, by omega, .inl ⟨rfl, rfl⟩, RN.out⟩
                case round =>
                  obtain ⟨k, d1, a1, rfl, rfl, rfl, hkl, hor, rn⟩ := hrel
                  rename World => wq
                  obtain ⟨⟨x0, x1, x2, x3, x4, x5, x6, x7⟩, -⟩ := cell_row8 rn.fb
                  clear RN
                  have RN : Hid _ := rn
                  clear rn
                  rcases hor with ⟨rfl, rfl⟩ | ⟨ha0, hat1⟩
                  · by_cases hk : k < f.hs.length
                    · have hk' : (k : Int) < (f.hs.length : Int) := by omega
                      obtain ⟨x, hx⟩ : ∃ x, f.hs[k]? = some x := ⟨f.hs[k], by simp⟩
                      obtain ⟨bh, oh, hqh, e0, e1, e2, e3⟩ := HFA.out.hs.lookH RN.out.bel hx
                      rw [hqh] at x7
                      have hok := HOK.out.hs x (List.mem_of_getElem? hx)
                      have HX : Hid _ := hx
                      have hdp : IntKind.i64.wrap (x.deep + 1) = x.deep + 1 := by rw [IntKind.wrap_i64]; omega
                      by_cases g1 : x.fr ≤ (pc : Int)
                      · by_cases g2 : (pc : Int) < x.to
                        · have hca : Hid _ := at_caught HOK.out HCL.out HI.out HAT.out (List.mem_of_getElem? hx) g1 g2
                          have ha0 : 0 ≤ x.at_ := by omega
                          have RN2 : Hid (Rn w (wq.alloc (.cells #[.int .i64 x.fr, .int .i64 x.to, .int .i64 x.at_, .int .i64 x.deep] 45)) f s w3.heap.size g cg told) := RN.out.below (below1 _ _)
                          clear hx hqh
                          go_wp2
                          go_roundw
                          case rel => exact ⟨k + 1, x.deep + 1, x.at_, rfl, rfl, by simp, by omega, .inr ⟨ha0, hca.out⟩, RN2.out⟩
                          case measure => simp [intOf]; omega
                        · have RN2 : Hid (Rn w (wq.alloc (.cells #[.int .i64 x.fr, .int .i64 x.to, .int .i64 x.at_, .int .i64 x.deep] 45)) f s w3.heap.size g cg told) := RN.out.below (below1 _ _)
                          clear hx hqh
                          go_wp2
                          go_roundw
                          case rel => exact ⟨k + 1, d1, -1, rfl, rfl, by simp, by omega, .inl ⟨rfl, rfl⟩, RN2.out⟩
                          case measure => simp [intOf]; omega
                      · have RN2 : Hid (Rn w (wq.alloc (.cells #[.int .i64 x.fr, .int .i64 x.to, .int .i64 x.at_, .int .i64 x.deep] 45)) f s w3.heap.size g cg told) := RN.out.below (below1 _ _)
                        clear hx hqh
                        go_wp2
                        go_roundw
                        case rel => exact ⟨k + 1, d1, -1, rfl, rfl, by simp, by omega, .inl ⟨rfl, rfl⟩, RN2.out⟩
                        case measure => simp [intOf]; omega
                    · have hk' : ¬ ((k : Int) < (f.hs.length : Int)) := by omega
                      go_wp2
                      go_ret
                      exact ⟨rfl, RN.out.bel⟩
                  · have ha0' : ¬ (a1 < 0) := by omega
                    obtain ⟨A, rfl⟩ : ∃ A : Nat, a1 = A := ⟨a1.toNat, by omega⟩
                    by_cases hk : k < f.hs.length
                    · have hk' : (k : Int) < (f.hs.length : Int) := by omega
                      go_wp2
                      go_roundw
                      case rel => exact ⟨A, d1, i + 1, rfl, rfl, by simp, by omega, by simpa using hat1, RN.out⟩
                      case measure => simp [intOf]; omega
                    · have hk' : ¬ ((k : Int) < (f.hs.length : Int)) := by omega
                      go_wp2
                      go_roundw
                      case rel => exact ⟨A, d1, i + 1, rfl, rfl, by simp, by omega, by simpa using hat1, RN.out⟩
                      case measure => simp [intOf]; omega
            · have h29' : ((op : Int) == 29) = false := by rw [beq_eq_false_iff_ne]; omega
              have hops : op = 0 ∨ op = 1 ∨ op = 2 ∨ op = 3 ∨ op = 4 ∨ op = 5 ∨ op = 6 ∨ op = 7 ∨ op = 8 ∨ op = 9 ∨ op = 10 ∨ op = 11 ∨ op = 12 ∨ op = 13 ∨ op = 14 ∨ op = 15 ∨ op = 16 ∨ op = 17 ∨ op = 18 ∨ op = 19 ∨ op = 20 ∨ op = 21 ∨ op = 22 ∨ op = 23 ∨ op = 24 ∨ op = 25 ∨ op = 26 ∨ op = 27 ∨ op = 28 ∨ op = 30 ∨ 31 ≤ op := by omega
              rcases hops with rfl | rfl | rfl | rfl | rfl | rfl | rfl | rfl | rfl | rfl | rfl | rfl | rfl | rfl | rfl | rfl | rfl | rfl | rfl | rfl | rfl | rfl | rfl | rfl | rfl | rfl | rfl | rfl | rfl | rfl | hbig
              · as_aux_lemma =>
                  have hq := NX.out.2.2 (pc + 1) (by simp [nextsP])
                  have hqe : d - takesP ⟨0, a⟩ + leavesP ⟨0, a⟩ = d := by simp [takesP, leavesP] <;> omega
                  rw [hqe] at hq
                  clear hqe
                  go_wp2
                  go_roundw
                  case rel => exact ⟨pc + 1, d, i + 1, by simp, rfl, by simp, by omega, hq, RN.out⟩
                  case measure => simp [intOf]; omega
              · as_aux_lemma =>
                  have hq := NX.out.2.2 (pc + 1) (by simp [nextsP])
                  have hqe : d - takesP ⟨1, a⟩ + leavesP ⟨1, a⟩ = d + 1 := by simp [takesP, leavesP] <;> omega
                  rw [hqe] at hq
                  clear hqe
                  go_wp2
                  go_roundw
                  case rel => exact ⟨pc + 1, d + 1, i + 1, by simp, rfl, by simp, by omega, hq, RN.out⟩
                  case measure => simp [intOf]; omega
              · as_aux_lemma =>
                  have hq := NX.out.2.2 (pc + 1) (by simp [nextsP])
                  have hqe : d - takesP ⟨2, a⟩ + leavesP ⟨2, a⟩ = d + 1 := by simp [takesP, leavesP] <;> omega
                  rw [hqe] at hq
                  clear hqe
                  go_wp2
                  go_roundw
                  case rel => exact ⟨pc + 1, d + 1, i + 1, by simp, rfl, by simp, by omega, hq, RN.out⟩
                  case measure => simp [intOf]; omega
              · as_aux_lemma =>
                  have hq := NX.out.2.2 (pc + 1) (by simp [nextsP])
                  have hqe : d - takesP ⟨3, a⟩ + leavesP ⟨3, a⟩ = d + 1 := by simp [takesP, leavesP] <;> omega
                  rw [hqe] at hq
                  clear hqe
                  go_wp2
                  go_roundw
                  case rel => exact ⟨pc + 1, d + 1, i + 1, by simp, rfl, by simp, by omega, hq, RN.out⟩
                  case measure => simp [intOf]; omega
              · as_aux_lemma =>
                  have hq := NX.out.2.2 (pc + 1) (by simp [nextsP])
                  have hqe : d - takesP ⟨4, a⟩ + leavesP ⟨4, a⟩ = d + 1 := by simp [takesP, leavesP] <;> omega
                  rw [hqe] at hq
                  clear hqe
                  go_wp2
                  go_roundw
                  case rel => exact ⟨pc + 1, d + 1, i + 1, by simp, rfl, by simp, by omega, hq, RN.out⟩
                  case measure => simp [intOf]; omega
              · as_aux_lemma =>
                  have hq := NX.out.2.2 (pc + 1) (by simp [nextsP])
                  have hqe : d - takesP ⟨5, a⟩ + leavesP ⟨5, a⟩ = d + 1 := by simp [takesP, leavesP] <;> omega
                  rw [hqe] at hq
                  clear hqe
                  go_wp2
                  go_roundw
                  case rel => exact ⟨pc + 1, d + 1, i + 1, by simp, rfl, by simp, by omega, hq, RN.out⟩
                  case measure => simp [intOf]; omega
              · as_aux_lemma =>
                  have hq := NX.out.2.2 (pc + 1) (by simp [nextsP])
                  have hqe : d - takesP ⟨6, a⟩ + leavesP ⟨6, a⟩ = d - 1 := by simp [takesP, leavesP] <;> omega
                  rw [hqe] at hq
                  clear hqe
                  go_wp2
                  go_roundw
                  case rel => exact ⟨pc + 1, d - 1, i + 1, by simp, rfl, by simp, by omega, hq, RN.out⟩
                  case measure => simp [intOf]; omega
              · as_aux_lemma =>
                  have hq := NX.out.2.2 (pc + 1) (by simp [nextsP])
                  have hqe : d - takesP ⟨7, a⟩ + leavesP ⟨7, a⟩ = d := by simp [takesP, leavesP] <;> omega
                  rw [hqe] at hq
                  clear hqe
                  go_wp2
                  go_roundw
                  case rel => exact ⟨pc + 1, d, i + 1, by simp, rfl, by simp, by omega, hq, RN.out⟩
                  case measure => simp [intOf]; omega
              · as_aux_lemma =>
                  have hq := NX.out.2.2 (pc + 1) (by simp [nextsP])
                  have hqe : d - takesP ⟨8, a⟩ + leavesP ⟨8, a⟩ = d + 1 := by simp [takesP, leavesP] <;> omega
                  rw [hqe] at hq
                  clear hqe
                  go_wp2
                  go_roundw
                  case rel => exact ⟨pc + 1, d + 1, i + 1, by simp, rfl, by simp, by omega, hq, RN.out⟩
                  case measure => simp [intOf]; omega
              · as_aux_lemma =>
                  have hq := NX.out.2.2 (pc + 1) (by simp [nextsP])
                  have hqe : d - takesP ⟨9, a⟩ + leavesP ⟨9, a⟩ = d - 1 := by simp [takesP, leavesP] <;> omega
                  rw [hqe] at hq
                  clear hqe
                  go_wp2
                  go_roundw
                  case rel => exact ⟨pc + 1, d - 1, i + 1, by simp, rfl, by simp, by omega, hq, RN.out⟩
                  case measure => simp [intOf]; omega
              · as_aux_lemma =>
                  have hq := NX.out.2.2 (pc + 1) (by simp [nextsP])
                  have hqe : d - takesP ⟨10, a⟩ + leavesP ⟨10, a⟩ = d + 1 := by simp [takesP, leavesP] <;> omega
                  rw [hqe] at hq
                  clear hqe
                  go_wp2
                  go_roundw
                  case rel => exact ⟨pc + 1, d + 1, i + 1, by simp, rfl, by simp, by omega, hq, RN.out⟩
                  case measure => simp [intOf]; omega
              · as_aux_lemma =>
                  have hq := NX.out.2.2 (pc + 1) (by simp [nextsP])
                  have hqe : d - takesP ⟨11, a⟩ + leavesP ⟨11, a⟩ = d - 1 := by simp [takesP, leavesP] <;> omega
                  rw [hqe] at hq
                  clear hqe
                  go_wp2
                  go_roundw
                  case rel => exact ⟨pc + 1, d - 1, i + 1, by simp, rfl, by simp, by omega, hq, RN.out⟩
                  case measure => simp [intOf]; omega
              · as_aux_lemma =>
                  have hq := NX.out.2.2 (pc + 1) (by simp [nextsP])
                  have hqe : d - takesP ⟨12, a⟩ + leavesP ⟨12, a⟩ = d - 1 := by simp [takesP, leavesP] <;> omega
                  rw [hqe] at hq
                  clear hqe
                  go_wp2
                  go_roundw
                  case rel => exact ⟨pc + 1, d - 1, i + 1, by simp, rfl, by simp, by omega, hq, RN.out⟩
                  case measure => simp [intOf]; omega
              · as_aux_lemma =>
                  have hq := NX.out.2.2 (pc + 1) (by simp [nextsP])
                  have hqe : d - takesP ⟨13, a⟩ + leavesP ⟨13, a⟩ = d + 1 := by simp [takesP, leavesP] <;> omega
                  rw [hqe] at hq
                  clear hqe
                  go_wp2
                  go_roundw
                  case rel => exact ⟨pc + 1, d + 1, i + 1, by simp, rfl, by simp, by omega, hq, RN.out⟩
                  case measure => simp [intOf]; omega
              · as_aux_lemma =>
                  have hq := NX.out.2.2 (pc + 1) (by simp [nextsP])
                  have hqe : d - takesP ⟨14, a⟩ + leavesP ⟨14, a⟩ = d - 1 := by simp [takesP, leavesP] <;> omega
                  rw [hqe] at hq
                  clear hqe
                  go_wp2
                  go_roundw
                  case rel => exact ⟨pc + 1, d - 1, i + 1, by simp, rfl, by simp, by omega, hq, RN.out⟩
                  case measure => simp [intOf]; omega
              · as_aux_lemma =>
                  have hq := NX.out.2.2 (pc + 1) (by simp [nextsP])
                  have hqe : d - takesP ⟨15, a⟩ + leavesP ⟨15, a⟩ = d := by simp [takesP, leavesP] <;> omega
                  rw [hqe] at hq
                  clear hqe
                  go_wp2
                  go_roundw
                  case rel => exact ⟨pc + 1, d, i + 1, by simp, rfl, by simp, by omega, hq, RN.out⟩
                  case measure => simp [intOf]; omega
              · as_aux_lemma =>
                  have hq := NX.out.2.2 (pc + 1) (by simp [nextsP])
                  have hqe : d - takesP ⟨16, a⟩ + leavesP ⟨16, a⟩ = d := by simp [takesP, leavesP] <;> omega
                  rw [hqe] at hq
                  clear hqe
                  go_wp2
                  go_roundw
                  case rel => exact ⟨pc + 1, d, i + 1, by simp, rfl, by simp, by omega, hq, RN.out⟩
                  case measure => simp [intOf]; omega
              · as_aux_lemma =>
                  have hq := NX.out.2.2 (pc + 1) (by simp [nextsP])
                  have hqe : d - takesP ⟨17, a⟩ + leavesP ⟨17, a⟩ = d := by simp [takesP, leavesP] <;> omega
                  rw [hqe] at hq
                  clear hqe
                  go_wp2
                  go_roundw
                  case rel => exact ⟨pc + 1, d, i + 1, by simp, rfl, by simp, by omega, hq, RN.out⟩
                  case measure => simp [intOf]; omega
              · as_aux_lemma =>
                  have hq := NX.out.2.2 (pc + 1) (by simp [nextsP])
                  have hqe : d - takesP ⟨18, a⟩ + leavesP ⟨18, a⟩ = d := by simp [takesP, leavesP] <;> omega
                  rw [hqe] at hq
                  clear hqe
                  go_wp2
                  go_roundw
                  case rel => exact ⟨pc + 1, d, i + 1, by simp, rfl, by simp, by omega, hq, RN.out⟩
                  case measure => simp [intOf]; omega
              · as_aux_lemma =>
                  have hz := NX.out.2.1
                  have hq := NX.out.2.2 a.toNat (by simp [nextsP])
                  have ha0 : 0 ≤ a := nexts_a HOK.out HI.out (by simp)
                  clear hz
                  obtain ⟨A, rfl⟩ : ∃ A : Nat, a = A := ⟨a.toNat, by omega⟩
                  go_wp2
                  go_roundw
                  case rel => exact ⟨A, d, i + 1, rfl, rfl, by simp, by omega, by have := hq; simpa [takesP, leavesP] using this, RN.out⟩
                  case measure => simp [intOf]; omega
              · as_aux_lemma =>
                  have hq := NX.out.2.2 (pc + 1) (by simp [nextsP])
                  have hq2 := NX.out.2.2 a.toNat (by simp [nextsP])
                  have ha0 : 0 ≤ a := nexts_a HOK.out HI.out (by simp)
                  obtain ⟨A, rfl⟩ : ∃ A : Nat, a = A := ⟨a.toNat, by omega⟩
                  by_cases hc2 : ((ch : Int) % 2 == 1) = true
                  · go_wp2
                    go_roundw
                    case rel => exact ⟨A, d - 1, i + 1, rfl, rfl, by simp, by omega, by have := hq2; simpa [takesP, leavesP] using this, RN.out⟩
                    case measure => simp [intOf]; omega
                  · have hc2' : ((ch : Int) % 2 == 1) = false := by simpa using hc2
                    clear hc2
                    go_wp2
                    go_roundw
                    case rel => exact ⟨pc + 1, d - 1, i + 1, by simp, rfl, by simp, by omega, by have := hq; simpa [takesP, leavesP] using this, RN.out⟩
                    case measure => simp [intOf]; omega
              · as_aux_lemma =>
                  have hz := NX.out.2.1
                  have hq := NX.out.2.2 a.toNat (by simp [nextsP])
                  have ha0 : 0 ≤ a := nexts_a HOK.out HI.out (by simp)
                  have hd0 : d = 0 := hz rfl
                  have hdz : (d != 0) = false := by simp [hd0]
                  have hdy : (d == 0) = true := by simp [hd0]
                  have HD0 : Hid _ := hd0
                  clear hd0 hz
                  obtain ⟨A, rfl⟩ : ∃ A : Nat, a = A := ⟨a.toNat, by omega⟩
                  go_wp2
                  go_roundw
                  case rel => exact ⟨A, d, i + 1, rfl, rfl, by simp, by omega, by have := hq; simpa [takesP, leavesP] using this, RN.out⟩
                  case measure => simp [intOf]; omega
              · as_aux_lemma =>
                  have har := (HOK.out.num pc _ HI.out).1 (by simp)
                  simp only at har
                  have hq := NX.out.2.2 (pc + 1) (by simp [nextsP])
                  have hqe : d - takesP ⟨22, a⟩ + leavesP ⟨22, a⟩ = d + 1 - a := by simp [takesP, leavesP] <;> omega
                  rw [hqe] at hq
                  clear hqe
                  go_wp2
                  go_roundw
                  case rel => exact ⟨pc + 1, d + 1 - a, i + 1, by simp, rfl, by simp, by omega, hq, RN.out⟩
                  case measure => simp [intOf]; omega
              · as_aux_lemma =>
                  have har := (HOK.out.num pc _ HI.out).1 (by simp)
                  simp only at har
                  have hq := NX.out.2.2 (pc + 1) (by simp [nextsP])
                  have hqe : d - takesP ⟨23, a⟩ + leavesP ⟨23, a⟩ = d + 1 - 2 * a := by simp [takesP, leavesP] <;> omega
                  rw [hqe] at hq
                  clear hqe
                  go_wp2
                  go_roundw
                  case rel => exact ⟨pc + 1, d + 1 - 2 * a, i + 1, by simp, rfl, by simp, by omega, hq, RN.out⟩
                  case measure => simp [intOf]; omega
              · as_aux_lemma =>
                  have hq := NX.out.2.2 (pc + 1) (by simp [nextsP])
                  have hqe : d - takesP ⟨24, a⟩ + leavesP ⟨24, a⟩ = d - 1 := by simp [takesP, leavesP] <;> omega
                  rw [hqe] at hq
                  clear hqe
                  go_wp2
                  go_roundw
                  case rel => exact ⟨pc + 1, d - 1, i + 1, by simp, rfl, by simp, by omega, hq, RN.out⟩
                  case measure => simp [intOf]; omega
              · as_aux_lemma =>
                  have hq := NX.out.2.2 (pc + 1) (by simp [nextsP])
                  have hqe : d - takesP ⟨25, a⟩ + leavesP ⟨25, a⟩ = d - 3 := by simp [takesP, leavesP] <;> omega
                  rw [hqe] at hq
                  clear hqe
                  go_wp2
                  go_roundw
                  case rel => exact ⟨pc + 1, d - 3, i + 1, by simp, rfl, by simp, by omega, hq, RN.out⟩
                  case measure => simp [intOf]; omega
              · as_aux_lemma =>
                  have hq := NX.out.2.2 (pc + 1) (by simp [nextsP])
                  have hqe : d - takesP ⟨26, a⟩ + leavesP ⟨26, a⟩ = d + 1 := by simp [takesP, leavesP] <;> omega
                  rw [hqe] at hq
                  clear hqe
                  go_wp2
                  go_roundw
                  case rel => exact ⟨pc + 1, d + 1, i + 1, by simp, rfl, by simp, by omega, hq, RN.out⟩
                  case measure => simp [intOf]; omega
              · as_aux_lemma =>
                  have har := (HOK.out.num pc _ HI.out).1 (by simp)
                  simp only at har
                  have hq := NX.out.2.2 (pc + 1) (by simp [nextsP])
                  have hqe : d - takesP ⟨27, a⟩ + leavesP ⟨27, a⟩ = d - a := by simp [takesP, leavesP] <;> omega
                  rw [hqe] at hq
                  clear hqe
                  go_wp2
                  go_roundw
                  case rel => exact ⟨pc + 1, d - a, i + 1, by simp, rfl, by simp, by omega, hq, RN.out⟩
                  case measure => simp [intOf]; omega
              · as_aux_lemma =>
                  have ht := (NX.out.1)
                  have ht1 : 1 ≤ d := by simpa [takesP] using ht
                  go_wp2
                  go_ret
                  exact ⟨rfl, RN.out.bel⟩
              · as_aux_lemma =>
                  have hq := NX.out.2.2 (pc + 1) (by simp [nextsP])
                  have hqe : d - takesP ⟨30, a⟩ + leavesP ⟨30, a⟩ = d - 1 := by simp [takesP, leavesP] <;> omega
                  rw [hqe] at hq
                  clear hqe
                  go_wp2
                  go_roundw
                  case rel => exact ⟨pc + 1, d - 1, i + 1, by simp, rfl, by simp, by omega, hq, RN.out⟩
                  case measure => simp [intOf]; omega
              · as_aux_lemma =>
                  have n1 : ((op : Int) == 1) = false := by simp; omega
                  have n2 : ((op : Int) == 2) = false := by simp; omega
                  have n3 : ((op : Int) == 3) = false := by simp; omega
                  have n4 : ((op : Int) == 4) = false := by simp; omega
                  have n5 : ((op : Int) == 5) = false := by simp; omega
                  have n6 : ((op : Int) == 6) = false := by simp; omega
                  have n7 : ((op : Int) == 7) = false := by simp; omega
                  have n8 : ((op : Int) == 8) = false := by simp; omega
                  have n9 : ((op : Int) == 9) = false := by simp; omega
                  have n10 : ((op : Int) == 10) = false := by simp; omega
                  have n11 : ((op : Int) == 11) = false := by simp; omega
                  have n12 : ((op : Int) == 12) = false := by simp; omega
                  have n13 : ((op : Int) == 13) = false := by simp; omega
                  have n14 : ((op : Int) == 14) = false := by simp; omega
                  have n15 : ((op : Int) == 15) = false := by simp; omega
                  have n16 : ((op : Int) == 16) = false := by simp; omega
                  have n17 : ((op : Int) == 17) = false := by simp; omega
                  have n18 : ((op : Int) == 18) = false := by simp; omega
                  have n19 : ((op : Int) == 19) = false := by simp; omega
                  have n20 : ((op : Int) == 20) = false := by simp; omega
                  have n21 : ((op : Int) == 21) = false := by simp; omega
                  have n22 : ((op : Int) == 22) = false := by simp; omega
                  have n23 : ((op : Int) == 23) = false := by simp; omega
                  have n24 : ((op : Int) == 24) = false := by simp; omega
                  have n25 : ((op : Int) == 25) = false := by simp; omega
                  have n26 : ((op : Int) == 26) = false := by simp; omega
                  have n27 : ((op : Int) == 27) = false := by simp; omega
                  have n28 : ((op : Int) == 28) = false := by simp; omega
                  have n29 : ((op : Int) == 29) = false := by simp; omega
                  have n30 : ((op : Int) == 30) = false := by simp; omega
                  have hq := NX.out.2.2 (pc + 1) (by unfold nextsP; rw [if_neg (by simp only; omega), if_neg (by simp only; omega), if_neg (by simp only; omega)]; simp)
                  have hqe : d - takesP ⟨op, a⟩ + leavesP ⟨op, a⟩ = d := by
                    have e1 : takesP ⟨op, a⟩ = 0 := by
                      unfold takesP
                      repeat rw [if_neg (by simp only; omega)]
                    have e2 : leavesP ⟨op, a⟩ = 0 := by
                      unfold leavesP
                      repeat rw [if_neg (by simp only; omega)]
                    omega
                  rw [hqe] at hq
                  clear hqe
                  go_wp2
                  go_roundw
                  case rel => exact ⟨pc + 1, d, i + 1, by simp, rfl, by simp, by omega, hq, RN.out⟩
                  case measure => simp [intOf]; omega
        · have hi' : ¬ ((i : Int) < 300) := by omega
          go_wp2
          go_ret
          exact ⟨rfl, rn.bel⟩

end Go.Proofs.YtpjgdbeekmoedaaDoor
