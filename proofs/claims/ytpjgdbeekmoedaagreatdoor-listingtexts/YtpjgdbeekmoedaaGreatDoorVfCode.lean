/- The document's code: the instructions of a function (gearboxref09). -/
import Derived.Test.YtpjgdbeekmoedaaGreatDoorVfRow
import Derived.Test.YtpjgdbeekmoedaaGreatDoorVfRef1
import Derived.Test.YtpjgdbeekmoedaaGreatDoorVfNum
import Derived.Test.YtpjgdbeekmoedaaGreatDoorVfRef2
import Derived.Test.YtpjgdbeekmoedaaGreatDoorVfFn
import Derived.Deep.RegionHeld3
namespace Go.Proofs.YtpjgdbeekmoedaaGreatDoor
set_option linter.unusedVariables false
set_option linter.unusedSimpArgs false
open Go.RowKit

variable {w : World}

theorem unwanted_if {P : Program} {ops : Array Oper} {S : World → Prop} {o : Oper} {a : Act} {j d : Nat} (hg : o.guard = some (j, true)) (hd : ((ops[j]?).bind (·.dst)) = some d) (ht : a.tmps[d]? = some (.bool false)) : YieldsIf P ops S o undef a :=
  Or.inr ⟨by unfold Region.wanted yielded; rw [hg]; simp only [hd, Option.bind_some, ht]; rfl, rfl⟩

theorem unwanted_un {P : Program} {ops : Array Oper} {S : World → Prop} {o : Oper} {a : Act} {j d : Nat} (hg : o.guard = some (j, false)) (hd : ((ops[j]?).bind (·.dst)) = some d) (ht : a.tmps[d]? = some (.bool true)) : YieldsIf P ops S o undef a :=
  Or.inr ⟨by unfold Region.wanted yielded; rw [hg]; simp only [hd, Option.bind_some, ht]; rfl, rfl⟩

theorem take_at {P : Program} {md : Region.Mode} {ops : Array Oper} {Q : Exit → Act → World → Prop} {S : World → Prop} {i d : Nat} {oi : Oper} {v : Value} {fuel : Nat} {listed : Array Bool} {a : Act} {w : World} (hi : ops[i]? = some oi) (hd : oi.dst = some d)
    (hs : Region.noSelect ops = true) (hf : Region.free md ops listed i = true) (hr : (Region.ready md ops listed).contains i = true)
    (hQ : ∀ c a w, Q (.panic c) (a.put (some d) v) w → Q (.panic c) a w) (hy : YieldsIf P ops S oi v a) (hS : S w)
    (h : wpAnyH P md ops Q S fuel (listed.setIfInBounds i true) { a with tmps := a.tmps.setIfInBounds d v } w) : wpAnyH P md ops Q S (fuel + 1) listed a w :=
  wpAnyH_take hi hs hf hr (by rw [hd]; exact hQ) hy hS (by rw [hd]; exact h)

/-- An instruction's op and number fit. -/
def OpOk (f : Fm) : Prop := ∀ i ∈ f.code, i.op < 256

theorem codeP_step {fs : List Fm} {fn : Nat} {f : Fm} {i : In} {r : List In} {pc : Nat} {mk : List Int} (h : insP fs fn f mk pc i = true) : codeP fs fn f (i :: r) pc mk = codeP fs fn f r (pc + 1) (mkP fn mk i) := by simp [codeP, h]

theorem codeP_stop {fs : List Fm} {fn : Nat} {f : Fm} {i : In} {r : List In} {pc : Nat} {mk : List Int} (h : insP fs fn f mk pc i = false) : codeP fs fn f (i :: r) pc mk = (some pc, mk) := by simp [codeP, h]

def pcV : Option Nat → Int
  | none => -1
  | some pc => pc

set_option maxRecDepth 20000 in
set_option maxHeartbeats 16000000 in
theorem code_in {w0 : World} {p : Option Addr} {fs : List Fm} (c fn : Nat) (f : Fm) (mk : List Int) (gm cm : Nat) (hs : IsFns w0 p fs) (hB0 : Below w0.heap.size w0 w) (hm : NumRow w0.heap.size gm cm mk w) (hml : mk.length = fs.length) (hf : fs[fn]? = some f) (hl : fs.length ≤ 1048576) (hsm : ∀ f ∈ fs, Small f) (hop : OpOk f) (hmr : ∀ x ∈ mk, -1 ≤ x) :
    Calls Tryz.prog 111 #[.slice p fs.length c, .int .i64 fn, .slice (some ⟨gm, 0, none⟩) mk.length cm] w fun e w' => e = .returned (.int .i64 (pcV (codeP fs fn f f.code 0 mk).1)) ∧
      NumRow w0.heap.size gm cm (codeP fs fn f f.code 0 mk).2 w' ∧ (codeP fs fn f f.code 0 mk).2.length = mk.length ∧ Below w0.heap.size w0 w' ∧ But gm w w' := by
  have hfn := (List.getElem?_eq_some_iff.1 hf).1
  have hfn' : (fn : Int) < (fs.length : Int) := by omega
  obtain ⟨b0, off, s, rfl, hv, hcs⟩ := hs.look0 hf
  obtain ⟨c0, c1, c2, c3, c4, c5, c6, c7⟩ := hcs _ hB0
  have hsf := hsm f (List.mem_of_getElem? hf)
  have hcl := hsf.code
  have hb0 := heap_alloc_new w (.cells #[.string f.name, .int .i64 f.params, .int .i64 f.locals, .slice s.qc f.caps.length s.cc, .slice s.qk f.consts.length s.ck, .slice s.qi f.code.length s.ci, .slice s.ql f.lines.length s.cl, .slice s.qh f.hs.length s.ch] 68)
  have hB1 := below1 w (.cells #[.string f.name, .int .i64 f.params, .int .i64 f.locals, .slice s.qc f.caps.length s.cc, .slice s.qk f.consts.length s.ck, .slice s.qi f.code.length s.ci, .slice s.ql f.lines.length s.cl, .slice s.qh f.hs.length s.ch] 68)
  have hsz : (w.alloc (.cells #[.string f.name, .int .i64 f.params, .int .i64 f.locals, .slice s.qc f.caps.length s.cc, .slice s.qk f.consts.length s.ck, .slice s.qi f.code.length s.ci, .slice s.ql f.lines.length s.cl, .slice s.qh f.hs.length s.ch] 68)).heap.size = w.heap.size + 1 := by simp
  have hgl := hm.lt
  have hm1 : NumRow w0.heap.size gm cm mk (w.alloc (.cells #[.string f.name, .int .i64 f.params, .int .i64 f.locals, .slice s.qc f.caps.length s.cc, .slice s.qk f.consts.length s.ck, .slice s.qi f.code.length s.ci, .slice s.ql f.lines.length s.cl, .slice s.qh f.hs.length s.ch] 68)) := hm.kept (hB1.block gm hgl.2)
  have hB01 : Below w0.heap.size w0 (w.alloc (.cells #[.string f.name, .int .i64 f.params, .int .i64 f.locals, .slice s.qc f.caps.length s.cc, .slice s.qk f.consts.length s.ck, .slice s.qi f.code.length s.ci, .slice s.ql f.lines.length s.cl, .slice s.qh f.hs.length s.ch] 68)) := hB0.trans (hB1.mono hB0.size)
  have bu1 : But gm w (w.alloc (.cells #[.string f.name, .int .i64 f.params, .int .i64 f.locals, .slice s.qc f.caps.length s.cc, .slice s.qk f.consts.length s.ck, .slice s.qi f.code.length s.ci, .slice s.ql f.lines.length s.cl, .slice s.qh f.hs.length s.ch] 68)) := ⟨hB1.size, fun k hk _ => hB1.block k hk⟩
  have hn0 := hB0.size
  have HML : Hid (mk.length = fs.length) := hml
  have HF : Hid (fs[fn]? = some f) := hf
  have HS : Hid _ := hs
  have HCS : Hid _ := hcs
  have HSM : Hid _ := hsm
  have HOP : Hid _ := hop
  clear hsf hm hs hcs hsm hop hml hf
  go_enter Tryz.func111, Tryz.ntmps111
  go_wp2
  generalize hWA : (w.alloc (.cells #[.string f.name, .int .i64 f.params, .int .i64 f.locals, .slice s.qc f.caps.length s.cc, .slice s.qk f.consts.length s.ck, .slice s.qi f.code.length s.ci, .slice s.ql f.lines.length s.cl, .slice s.qh f.hs.length s.ch] 68)) = WA at *
  go_loopw [8] (fun k wr => ∃ (pre rest : List In) (mk' : List Int), k = .int .i64 pre.length ∧ f.code = pre ++ rest ∧ codeP fs fn f f.code 0 mk = codeP fs fn f rest pre.length mk' ∧ mk'.length = mk.length ∧ (∀ x ∈ mk', -1 ≤ x) ∧ NumRow w0.heap.size gm cm mk' wr ∧ Below w0.heap.size w0 wr ∧ But gm w wr ∧ wr.heap[w.heap.size]? = some (.cells #[.string f.name, .int .i64 f.params, .int .i64 f.locals, .slice s.qc f.caps.length s.cc, .slice s.qk f.consts.length s.ck, .slice s.qi f.code.length s.ci, .slice s.ql f.lines.length s.cl, .slice s.qh f.hs.length s.ch] 68 (0, 0))) (fun k _ => f.code.length - (intOf k).toNat)
  case atStart => exact ⟨[], f.code, mk, rfl, rfl, rfl, rfl, hmr, hm1, hB01, bu1, hb0⟩
  case round =>
    clear hm1 hB01 bu1 hb0 hmr
    obtain ⟨pre, rest, mk', rfl, hR, hC, hml0, hmr0, hm, hB, hbu, hbx⟩ := hrel
    have hmr : Hid _ := hmr0
    have hml' : Hid (mk'.length = mk.length) := hml0
    clear hmr0 hml0
    obtain ⟨⟨r0, r1, r2, r3, r4, r5, r6, r7⟩, -⟩ := cell_row8 hbx
    have hwl := (Array.getElem?_eq_some_iff.1 hbx).1
    cases rest with
    | nil =>
      have hR' : f.code.length = pre.length := by rw [hR]; simp
      have hq : ¬ ((pre.length : Int) < (f.code.length : Int)) := by omega
      have HC : Hid _ := hC
      clear hR hR' hC
      go_wp2
      go_ret
      rw [HC.out]
      exact ⟨rfl, hm, hml'.out, hB, hbu⟩
    | cons x rest =>
      have hlR : pre.length < f.code.length := by rw [hR]; simp
      have hlR' : (pre.length : Int) < (f.code.length : Int) := by omega
      have hxi : f.code[pre.length]? = some x := by rw [hR]; simp
      have hxo := HOP.out x (by rw [hR]; simp)
      have hvr : FnAt wr f s := hv.below hB
      obtain ⟨bx, ox, hq, i0, i1⟩ := hvr.code.look2 (Below.refl _ _) hxi
      rw [hq] at r5
      obtain ⟨op, a⟩ := x
      simp only at hxo i0 i1
      have hX := below1 wr (.cells #[.int .u8 op, .int .i64 a] 120)
      have H1 := number_in fs.length f s pre.length ⟨op, a⟩ (some ⟨b0, off, none⟩) c (hvr.below hX) hxi hcl
      unfold fnA at H1
      rw [hq] at H1
      have HQ : Hid _ := hq
      have H2 := fun W => ends_in op hxo W
      have e1 : (((pre ++ [(⟨op, a⟩ : In)]).length : Nat) : Int) = pre.length + 1 := by simp
      have STOP : Hid (insP fs fn f mk' pre.length ⟨op, a⟩ = false → codeP fs fn f f.code 0 mk = (some pre.length, mk')) := fun h => by rw [hC]; exact codeP_stop h
      have GO : Hid (insP fs fn f mk' pre.length ⟨op, a⟩ = true → codeP fs fn f f.code 0 mk = codeP fs fn f rest (pre ++ [(⟨op, a⟩ : In)]).length (mkP fn mk' ⟨op, a⟩)) := fun h => by rw [hC, codeP_step h]; simp
      have HR : Hid (f.code = (pre ++ [(⟨op, a⟩ : In)]) ++ rest) := by show f.code = _; rw [hR]; simp
      have hixw := heap_alloc_new wr (.cells #[.int .u8 op, .int .i64 a] 120)
      have hBX : Below w0.heap.size w0 (wr.alloc (.cells #[.int .u8 op, .int .i64 a] 120)) := hB.trans (hX.mono hB.size)
      have hwX : (wr.alloc (.cells #[.int .u8 op, .int .i64 a] 120)).heap.size = wr.heap.size + 1 := by simp
      have hgr := hm.lt
      -- what stands behind number
      have AFT : Hid (∀ w2, Below (wr.alloc (.cells #[.int .u8 op, .int .i64 a] 120)).heap.size (wr.alloc (.cells #[.int .u8 op, .int .i64 a] 120)) w2 →
          NumRow w0.heap.size gm cm mk' w2 ∧ Below w0.heap.size w0 w2 ∧ But gm w w2 ∧ w2.heap[w.heap.size]? = some (.cells #[.string f.name, .int .i64 f.params, .int .i64 f.locals, .slice s.qc f.caps.length s.cc, .slice s.qk f.consts.length s.ck, .slice s.qi f.code.length s.ci, .slice s.ql f.lines.length s.cl, .slice s.qh f.hs.length s.ch] 68 (0, 0)) ∧ w2.heap[wr.heap.size]? = some (.cells #[.int .u8 op, .int .i64 a] 120 (0, 0))) := fun w2 h2 => by
        have hall : ∀ k, k < wr.heap.size → w2.heap[k]? = wr.heap[k]? := fun k hk => (h2.block k (by omega)).trans (hX.block k hk)
        exact ⟨hm.kept (hall gm hgr.2), hBX.trans (h2.mono hBX.size), ⟨Nat.le_trans hbu.size (Nat.le_trans hX.size h2.size), fun k hk hne => (hall k (Nat.lt_of_lt_of_le hk hbu.size)).trans (hbu.block k hk hne)⟩, (hall _ hwl).trans hbx, (h2.block _ (by omega)).trans hixw⟩
      clear hR hC hq hxi
      obtain ⟨nb, hnb⟩ : ∃ nb, numberP fs.length f pre.length ⟨op, a⟩ = nb := ⟨_, rfl⟩
      rw [hnb] at H1
      cases nb with
      | false =>
        go_wp2_with (first
          | (go_at_call 195; refine H1.mono ?_; clear H1; rintro e w2 ⟨rfl, hB2⟩; obtain ⟨hm2, k2, bu2, bx2, ix2⟩ := AFT.out _ hB2; obtain ⟨⟨z0, z1, z2, z3, z4, z5, z6, z7⟩, -⟩ := cell_row8 bx2; rw [HQ.out] at z5; obtain ⟨⟨y0, y1⟩, -⟩ := cell_row2 ix2))
        go_ret
        rw [STOP.out (by unfold insP; rw [hnb]; rfl)]
        exact ⟨rfl, hm2, hml'.out, k2, bu2⟩
      | true =>
        by_cases hlast : pre.length + 1 = f.code.length
        · have hlb : ((pre.length : Int) == (f.code.length : Int) - 1) = true := by simp; omega
          obtain ⟨eb, heb⟩ : ∃ eb, endsP op = eb := ⟨_, rfl⟩
          rw [heb] at H2
          cases eb with
          | false =>
            go_wp2_with (first
              | (go_at_call 195; refine H1.mono ?_; clear H1; rintro e w2 ⟨rfl, hB2⟩; obtain ⟨hm2, k2, bu2, bx2, ix2⟩ := AFT.out _ hB2; obtain ⟨⟨z0, z1, z2, z3, z4, z5, z6, z7⟩, -⟩ := cell_row8 bx2; rw [HQ.out] at z5; obtain ⟨⟨y0, y1⟩, -⟩ := cell_row2 ix2)
              | (go_at_call 196; refine (H2 _).mono ?_; rintro e w' ⟨rfl, hw'⟩; obtain rfl := hw'.symm))
            go_ret
            rw [STOP.out (by unfold insP; rw [hnb, heb]; simp [hlast])]
            exact ⟨rfl, hm2, hml'.out, k2, bu2⟩
          | true =>
            have h26 : op ≠ 26 := by intro e; subst e; simp [endsP] at heb
            have h26' : ((op : Int) == 26) = false := by simp; omega
            go_wp2_with (first
              | (go_at_call 195; refine H1.mono ?_; clear H1; rintro e w2 ⟨rfl, hB2⟩; obtain ⟨hm2, k2, bu2, bx2, ix2⟩ := AFT.out _ hB2; obtain ⟨⟨z0, z1, z2, z3, z4, z5, z6, z7⟩, -⟩ := cell_row8 bx2; rw [HQ.out] at z5; obtain ⟨⟨y0, y1⟩, -⟩ := cell_row2 ix2)
              | (go_at_call 196; refine (H2 _).mono ?_; rintro e w' ⟨rfl, hw'⟩; obtain rfl := hw'.symm))
            go_roundw
            case rel => exact ⟨pre ++ [⟨op, a⟩], rest, mk', by rw [e1], HR.out, by rw [GO.out (by unfold insP; rw [hnb, heb]; simp [h26])]; simp [mkP, h26], hml'.out, hmr.out, hm2, k2, bu2, bx2⟩
            case measure => simp [intOf]; omega
        · have hlb : ((pre.length : Int) == (f.code.length : Int) - 1) = false := by simp; omega
          by_cases h26 : op = 26
          · subst h26
            have hAr : 1 ≤ a ∧ a < fs.length := by simpa [numberP] using hnb
            obtain ⟨A, rfl⟩ : ∃ A : Nat, a = A := ⟨a.toNat, by omega⟩
            have hA1 : A < fs.length := by omega
            have hA2 : (A : Int) < (fs.length : Int) := by omega
            have hA3 : (A : Int) < (mk.length : Int) := by have := HML.out; omega
            obtain ⟨m, hmA⟩ : ∃ m, mk'[A]? = some m := ⟨mk'[A]'(by have := HML.out; have := hml'.out; omega), by simp⟩
            obtain ⟨made, hmade⟩ : ∃ g, fs[A]? = some g := ⟨fs[A], by simp⟩
            have hm0 := hmr.out m (List.mem_of_getElem? hmA)
            have hmD : mk'.getD A (-1) = m := by rw [List.getD_eq_getElem?_getD, hmA]; rfl
            obtain ⟨b2, off2, s2, e2, hv2, hcs2⟩ := IsFns.look0 HS.out hmade
            simp at e2
            obtain ⟨rfl, rfl⟩ := e2
            have hmk := HSM.out made (List.mem_of_getElem? hmade)
            have H3 := fun (W : World) (h : Below w0.heap.size w0 W) => caps_in f made s s2 (hv2.below h) hmk.caps
            unfold fnA at H3
            rw [HQ.out] at H3
            obtain ⟨cb, hcb⟩ : ∃ cb, capsP f made = cb := ⟨_, rfl⟩
            rw [hcb] at H3
            have NI : Hid (numberP fs.length f pre.length ⟨26, (A : Int)⟩ = true) := hnb
            have hnl : decide (pre.length + 1 ≠ f.code.length) = true := by simpa using hlast
            have INS : Hid (insP fs fn f mk' pre.length ⟨26, (A : Int)⟩ = (decide (m < 0 ∨ m = fn) && capsP f made)) := by
              show insP fs fn f mk' pre.length ⟨26, (A : Int)⟩ = _
              unfold insP
              rw [NI.out, hnl]
              simp only [Int.toNat_natCast, hmD, hmade]
              simp
            clear hnb hnl
            have HCS2 : Hid _ := hcs2
            have HMA : Hid _ := hmA
            clear hcs2 hmA hmD hmade
            by_cases hma : 0 ≤ m ∧ m ≠ fn
            · obtain ⟨ha1, ha2⟩ := hma
              have ha3 : (m == (fn : Int)) = false := by simpa using ha2
              have ha4 : (m != (fn : Int)) = true := by simpa [bne] using ha3
              go_wp2_with (first
                | (go_at_call 195; refine H1.mono ?_; clear H1; rintro e w2 ⟨rfl, hB2⟩; obtain ⟨hm2, k2, bu2, bx2, ix2⟩ := AFT.out _ hB2; obtain ⟨⟨z0, z1, z2, z3, z4, z5, z6, z7⟩, -⟩ := cell_row8 bx2; rw [HQ.out] at z5; obtain ⟨⟨y0, y1⟩, -⟩ := cell_row2 ix2))
              have q0 := hm2.at HMA.out
              have F : Hid (∀ W, Below w2.heap.size w2 W → W.cell? ⟨gm, A, none⟩ = some (.int .i64 m) ∧ W.cell? ⟨wr.heap.size, 1, none⟩ = some (.int .i64 A) ∧ W.cell? ⟨w.heap.size, 0, none⟩ = some (.string f.name) ∧ W.cell? ⟨w.heap.size, 1, none⟩ = some (.int .i64 f.params) ∧ W.cell? ⟨w.heap.size, 2, none⟩ = some (.int .i64 f.locals) ∧ W.cell? ⟨w.heap.size, 3, none⟩ = some (.slice s.qc f.caps.length s.cc) ∧ W.cell? ⟨w.heap.size, 4, none⟩ = some (.slice s.qk f.consts.length s.ck) ∧ W.cell? ⟨w.heap.size, 5, none⟩ = some (.slice (some ⟨bx, ox, none⟩) f.code.length s.ci) ∧ W.cell? ⟨w.heap.size, 6, none⟩ = some (.slice s.ql f.lines.length s.cl) ∧ W.cell? ⟨w.heap.size, 7, none⟩ = some (.slice s.qh f.hs.length s.ch) ∧ W.cell? ⟨b0, off + A * 8, none⟩ = some (.string made.name) ∧ W.cell? ⟨b0, off + A * 8 + 1, none⟩ = some (.int .i64 made.params) ∧ W.cell? ⟨b0, off + A * 8 + 2, none⟩ = some (.int .i64 made.locals) ∧ W.cell? ⟨b0, off + A * 8 + 3, none⟩ = some (.slice s2.qc made.caps.length s2.cc) ∧ W.cell? ⟨b0, off + A * 8 + 4, none⟩ = some (.slice s2.qk made.consts.length s2.ck) ∧ W.cell? ⟨b0, off + A * 8 + 5, none⟩ = some (.slice s2.qi made.code.length s2.ci) ∧ W.cell? ⟨b0, off + A * 8 + 6, none⟩ = some (.slice s2.ql made.lines.length s2.cl) ∧ W.cell? ⟨b0, off + A * 8 + 7, none⟩ = some (.slice s2.qh made.hs.length s2.ch)) := fun W hW => by
                obtain ⟨g0, g1, g2, g3, g4, g5, g6, g7⟩ := HCS2.out _ (k2.trans (hW.mono k2.size))
                obtain ⟨⟨l0, l1, l2, l3, l4, l5, l6, l7⟩, -⟩ := cell_row8 ((hW.block _ (Array.getElem?_eq_some_iff.1 bx2).1).trans bx2)
                rw [HQ.out] at l5
                obtain ⟨⟨y0', y1'⟩, -⟩ := cell_row2 ((hW.block _ (Array.getElem?_eq_some_iff.1 ix2).1).trans ix2)
                exact ⟨(hm2.kept (hW.block _ hm2.lt.2)).at HMA.out, y1', l0, l1, l2, l3, l4, l5, l6, l7, g0, g1, g2, g3, g4, g5, g6, g7⟩
              clear q0 z0 z1 z2 z3 z4 z5 z6 z7 y0 y1
              refine wp_region_held_drew (S := fun W => W.cell? ⟨gm, A, none⟩ = some (.int .i64 m) ∧ W.cell? ⟨wr.heap.size, 1, none⟩ = some (.int .i64 A) ∧ W.cell? ⟨w.heap.size, 0, none⟩ = some (.string f.name) ∧ W.cell? ⟨w.heap.size, 1, none⟩ = some (.int .i64 f.params) ∧ W.cell? ⟨w.heap.size, 2, none⟩ = some (.int .i64 f.locals) ∧ W.cell? ⟨w.heap.size, 3, none⟩ = some (.slice s.qc f.caps.length s.cc) ∧ W.cell? ⟨w.heap.size, 4, none⟩ = some (.slice s.qk f.consts.length s.ck) ∧ W.cell? ⟨w.heap.size, 5, none⟩ = some (.slice (some ⟨bx, ox, none⟩) f.code.length s.ci) ∧ W.cell? ⟨w.heap.size, 6, none⟩ = some (.slice s.ql f.lines.length s.cl) ∧ W.cell? ⟨w.heap.size, 7, none⟩ = some (.slice s.qh f.hs.length s.ch) ∧ W.cell? ⟨b0, off + A * 8, none⟩ = some (.string made.name) ∧ W.cell? ⟨b0, off + A * 8 + 1, none⟩ = some (.int .i64 made.params) ∧ W.cell? ⟨b0, off + A * 8 + 2, none⟩ = some (.int .i64 made.locals) ∧ W.cell? ⟨b0, off + A * 8 + 3, none⟩ = some (.slice s2.qc made.caps.length s2.cc) ∧ W.cell? ⟨b0, off + A * 8 + 4, none⟩ = some (.slice s2.qk made.consts.length s2.ck) ∧ W.cell? ⟨b0, off + A * 8 + 5, none⟩ = some (.slice s2.qi made.code.length s2.ci) ∧ W.cell? ⟨b0, off + A * 8 + 6, none⟩ = some (.slice s2.ql made.lines.length s2.cl) ∧ W.cell? ⟨b0, off + A * 8 + 7, none⟩ = some (.slice s2.qh made.hs.length s2.ch)) (by kernel_rfl) (F.out _ (below_drew (Below.refl _ _))) (fun hHeld => ?_)
              refine take_at (i := 0) (d := 49) (v := ?va0) rfl rfl (by kernel_rfl) (by kernel_rfl) (by kernel_rfl) (fun _ _ _ h => h) (Or.inl ⟨by rfl, ?hya0⟩) (by assumption) ?resta0
              case hya0 => (intro w hSw; (try dsimp only at hSw); go_simp; try with_reducible rfl)
              simp only [List.setIfInBounds_toArray, List.set_cons_zero, List.set_cons_succ]
              refine take_at (i := 1) (d := 50) (v := ?va1) rfl rfl (by kernel_rfl) (by kernel_rfl) (by kernel_rfl) (fun _ _ _ h => h) (Or.inl ⟨by rfl, ?hya1⟩) (by assumption) ?resta1
              case hya1 => (intro w hSw; (try dsimp only at hSw); go_simp; try with_reducible rfl)
              simp only [List.setIfInBounds_toArray, List.set_cons_zero, List.set_cons_succ]
              refine take_at (i := 2) (d := 51) (v := ?va2) rfl rfl (by kernel_rfl) (by kernel_rfl) (by kernel_rfl) (fun _ _ _ h => h) (Or.inl ⟨by rfl, ?hya2⟩) (by assumption) ?resta2
              case hya2 => (intro w hSw; (try dsimp only at hSw); go_simp; try with_reducible rfl)
              simp only [List.setIfInBounds_toArray, List.set_cons_zero, List.set_cons_succ]
              refine take_at (i := 3) (d := 52) (v := ?va3) rfl rfl (by kernel_rfl) (by kernel_rfl) (by kernel_rfl) (fun _ _ _ h => h) (Or.inl ⟨by rfl, ?hya3⟩) (by assumption) ?resta3
              case hya3 => (intro w hSw; (try dsimp only at hSw); go_simp; try with_reducible rfl)
              simp only [List.setIfInBounds_toArray, List.set_cons_zero, List.set_cons_succ]
              refine take_at (i := 4) (d := 53) (v := ?va4) rfl rfl (by kernel_rfl) (by kernel_rfl) (by kernel_rfl) (fun _ _ _ h => h) (Or.inl ⟨by rfl, ?hya4⟩) (by assumption) ?resta4
              case hya4 => (intro w hSw; (try dsimp only at hSw); go_simp; try with_reducible rfl)
              simp only [List.setIfInBounds_toArray, List.set_cons_zero, List.set_cons_succ]
              refine take_at (i := 5) (d := 54) (v := ?va5) rfl rfl (by kernel_rfl) (by kernel_rfl) (by kernel_rfl) (fun _ _ _ h => h) (Or.inl ⟨by rfl, ?hya5⟩) (by assumption) ?resta5
              case hya5 => (intro w hSw; (try dsimp only at hSw); go_simp; try with_reducible rfl)
              simp only [List.setIfInBounds_toArray, List.set_cons_zero, List.set_cons_succ]
              refine take_at (i := 6) (d := 55) (v := ?va6) rfl rfl (by kernel_rfl) (by kernel_rfl) (by kernel_rfl) (fun _ _ _ h => h) (Or.inl ⟨by rfl, ?hya6⟩) (by assumption) ?resta6
              case hya6 => (intro w hSw; (try dsimp only at hSw); go_simp; try with_reducible rfl)
              simp only [List.setIfInBounds_toArray, List.set_cons_zero, List.set_cons_succ]
              refine take_at (i := 7) (d := 56) (v := ?va7) rfl rfl (by kernel_rfl) (by kernel_rfl) (by kernel_rfl) (fun _ _ _ h => h) (Or.inl ⟨by rfl, ?hya7⟩) (by assumption) ?resta7
              case hya7 => (intro w hSw; (try dsimp only at hSw); go_simp; try with_reducible rfl)
              simp only [List.setIfInBounds_toArray, List.set_cons_zero, List.set_cons_succ]
              refine take_at (i := 8) (d := 57) (v := ?va8) rfl rfl (by kernel_rfl) (by kernel_rfl) (by kernel_rfl) (fun _ _ _ h => h) (Or.inl ⟨by rfl, ?hya8⟩) (by assumption) ?resta8
              case hya8 => (intro w hSw; (try dsimp only at hSw); go_simp; try with_reducible rfl)
              simp only [List.setIfInBounds_toArray, List.set_cons_zero, List.set_cons_succ]
              refine take_at (i := 9) (d := 58) (v := ?va9) rfl rfl (by kernel_rfl) (by kernel_rfl) (by kernel_rfl) (fun _ _ _ h => h) (Or.inl ⟨by rfl, ?hya9⟩) (by assumption) ?resta9
              case hya9 => (intro w hSw; (try dsimp only at hSw); go_simp; try with_reducible rfl)
              simp only [List.setIfInBounds_toArray, List.set_cons_zero, List.set_cons_succ]
              refine take_at (i := 10) (d := 59) (v := ?va10) rfl rfl (by kernel_rfl) (by kernel_rfl) (by kernel_rfl) (fun _ _ _ h => h) (Or.inl ⟨by rfl, ?hya10⟩) (by assumption) ?resta10
              case hya10 => (intro w hSw; (try dsimp only at hSw); go_simp; try with_reducible rfl)
              simp only [List.setIfInBounds_toArray, List.set_cons_zero, List.set_cons_succ]
              refine take_at (i := 11) (d := 60) (v := ?va11) rfl rfl (by kernel_rfl) (by kernel_rfl) (by kernel_rfl) (fun _ _ _ h => h) (Or.inl ⟨by rfl, ?hya11⟩) (by assumption) ?resta11
              case hya11 => (intro w hSw; (try dsimp only at hSw); go_simp; try with_reducible rfl)
              simp only [List.setIfInBounds_toArray, List.set_cons_zero, List.set_cons_succ]
              refine take_at (i := 12) (d := 61) (v := ?va12) rfl rfl (by kernel_rfl) (by kernel_rfl) (by kernel_rfl) (fun _ _ _ h => h) (Or.inl ⟨by rfl, ?hya12⟩) (by assumption) ?resta12
              case hya12 => (intro w hSw; (try dsimp only at hSw); go_simp; try with_reducible rfl)
              simp only [List.setIfInBounds_toArray, List.set_cons_zero, List.set_cons_succ]
              refine take_at (i := 13) (d := 62) (v := ?va13) rfl rfl (by kernel_rfl) (by kernel_rfl) (by kernel_rfl) (fun _ _ _ h => h) (Or.inl ⟨by rfl, ?hya13⟩) (by assumption) ?resta13
              case hya13 => (intro w hSw; (try dsimp only at hSw); go_simp; try with_reducible rfl)
              simp only [List.setIfInBounds_toArray, List.set_cons_zero, List.set_cons_succ]
              refine take_at (i := 14) (d := 63) (v := ?va14) rfl rfl (by kernel_rfl) (by kernel_rfl) (by kernel_rfl) (fun _ _ _ h => h) (Or.inl ⟨by rfl, ?hya14⟩) (by assumption) ?resta14
              case hya14 => (intro w hSw; (try dsimp only at hSw); go_simp; try with_reducible rfl)
              simp only [List.setIfInBounds_toArray, List.set_cons_zero, List.set_cons_succ]
              refine take_at (i := 15) (d := 64) (v := ?va15) rfl rfl (by kernel_rfl) (by kernel_rfl) (by kernel_rfl) (fun _ _ _ h => h) (Or.inl ⟨by rfl, ?hya15⟩) (by assumption) ?resta15
              case hya15 => (intro w hSw; (try dsimp only at hSw); go_simp; try with_reducible rfl)
              simp only [List.setIfInBounds_toArray, List.set_cons_zero, List.set_cons_succ]
              refine take_at (i := 16) (d := 65) (v := undef) rfl rfl (by kernel_rfl) (by kernel_rfl) (by kernel_rfl) (fun _ _ _ h => h) (unwanted_un (j := 15) (d := 64) rfl rfl rfl) (by assumption) ?resta16
              simp only [List.setIfInBounds_toArray, List.set_cons_zero, List.set_cons_succ]
              refine take_at (i := 17) (d := 66) (v := undef) rfl rfl (by kernel_rfl) (by kernel_rfl) (by kernel_rfl) (fun _ _ _ h => h) (unwanted_un (j := 15) (d := 64) rfl rfl rfl) (by assumption) ?resta17
              simp only [List.setIfInBounds_toArray, List.set_cons_zero, List.set_cons_succ]
              refine take_at (i := 18) (d := 67) (v := undef) rfl rfl (by kernel_rfl) (by kernel_rfl) (by kernel_rfl) (fun _ _ _ h => h) (unwanted_un (j := 15) (d := 64) rfl rfl rfl) (by assumption) ?resta18
              simp only [List.setIfInBounds_toArray, List.set_cons_zero, List.set_cons_succ]
              refine take_at (i := 19) (d := 68) (v := undef) rfl rfl (by kernel_rfl) (by kernel_rfl) (by kernel_rfl) (fun _ _ _ h => h) (unwanted_un (j := 15) (d := 64) rfl rfl rfl) (by assumption) ?resta19
              simp only [List.setIfInBounds_toArray, List.set_cons_zero, List.set_cons_succ]
              refine take_at (i := 20) (d := 69) (v := undef) rfl rfl (by kernel_rfl) (by kernel_rfl) (by kernel_rfl) (fun _ _ _ h => h) (unwanted_un (j := 15) (d := 64) rfl rfl rfl) (by assumption) ?resta20
              simp only [List.setIfInBounds_toArray, List.set_cons_zero, List.set_cons_succ]
              refine take_at (i := 21) (d := 70) (v := undef) rfl rfl (by kernel_rfl) (by kernel_rfl) (by kernel_rfl) (fun _ _ _ h => h) (unwanted_un (j := 15) (d := 64) rfl rfl rfl) (by assumption) ?resta21
              simp only [List.setIfInBounds_toArray, List.set_cons_zero, List.set_cons_succ]
              refine take_at (i := 22) (d := 71) (v := undef) rfl rfl (by kernel_rfl) (by kernel_rfl) (by kernel_rfl) (fun _ _ _ h => h) (unwanted_un (j := 15) (d := 64) rfl rfl rfl) (by assumption) ?resta22
              simp only [List.setIfInBounds_toArray, List.set_cons_zero, List.set_cons_succ]
              refine take_at (i := 23) (d := 72) (v := undef) rfl rfl (by kernel_rfl) (by kernel_rfl) (by kernel_rfl) (fun _ _ _ h => h) (unwanted_un (j := 15) (d := 64) rfl rfl rfl) (by assumption) ?resta23
              simp only [List.setIfInBounds_toArray, List.set_cons_zero, List.set_cons_succ]
              refine take_at (i := 24) (d := 73) (v := ?va24) rfl rfl (by kernel_rfl) (by kernel_rfl) (by kernel_rfl) (fun _ _ _ h => h) (Or.inl ⟨by rfl, ?hya24⟩) (by assumption) ?resta24
              case hya24 => (intro w hSw; (try dsimp only at hSw); go_simp; try with_reducible rfl)
              simp only [List.setIfInBounds_toArray, List.set_cons_zero, List.set_cons_succ]
              refine wpAnyH_done (by kernel_rfl) ?_ _
              go_wp2
              go_ret
              rw [STOP.out (by rw [INS.out]; simp; omega)]
              exact ⟨rfl, hm2, hml'.out, below_drew k2, ⟨bu2.size, bu2.block⟩⟩
            · have hok : m < 0 ∨ m = fn := by omega
              have HIN : Hid (insP fs fn f mk' pre.length ⟨26, (A : Int)⟩ = cb) := by show _ = _; rw [INS.out, hcb]; simp [hok]
              have MK : Hid (mkP fn mk' ⟨26, (A : Int)⟩ = mk'.set A fn) := by show mkP fn mk' ⟨26, (A : Int)⟩ = _; simp [mkP]
              clear hcb
              by_cases hmn : m < 0
              · clear hok hma
                have hmd : decide (0 ≤ m) = false := decide_eq_false (by omega)
                go_wp2_with (first
                  | (go_at_call 195; refine H1.mono ?_; clear H1; rintro e w2 ⟨rfl, hB2⟩; obtain ⟨hm2, k2, bu2, bx2, ix2⟩ := AFT.out _ hB2; obtain ⟨⟨z0, z1, z2, z3, z4, z5, z6, z7⟩, -⟩ := cell_row8 bx2; rw [HQ.out] at z5; obtain ⟨⟨y0, y1⟩, -⟩ := cell_row2 ix2))
                have q0 := hm2.at HMA.out
                have F : Hid (∀ W, Below w2.heap.size w2 W → W.cell? ⟨gm, A, none⟩ = some (.int .i64 m) ∧ W.cell? ⟨wr.heap.size, 1, none⟩ = some (.int .i64 A) ∧ W.cell? ⟨w.heap.size, 0, none⟩ = some (.string f.name) ∧ W.cell? ⟨w.heap.size, 1, none⟩ = some (.int .i64 f.params) ∧ W.cell? ⟨w.heap.size, 2, none⟩ = some (.int .i64 f.locals) ∧ W.cell? ⟨w.heap.size, 3, none⟩ = some (.slice s.qc f.caps.length s.cc) ∧ W.cell? ⟨w.heap.size, 4, none⟩ = some (.slice s.qk f.consts.length s.ck) ∧ W.cell? ⟨w.heap.size, 5, none⟩ = some (.slice (some ⟨bx, ox, none⟩) f.code.length s.ci) ∧ W.cell? ⟨w.heap.size, 6, none⟩ = some (.slice s.ql f.lines.length s.cl) ∧ W.cell? ⟨w.heap.size, 7, none⟩ = some (.slice s.qh f.hs.length s.ch) ∧ W.cell? ⟨b0, off + A * 8, none⟩ = some (.string made.name) ∧ W.cell? ⟨b0, off + A * 8 + 1, none⟩ = some (.int .i64 made.params) ∧ W.cell? ⟨b0, off + A * 8 + 2, none⟩ = some (.int .i64 made.locals) ∧ W.cell? ⟨b0, off + A * 8 + 3, none⟩ = some (.slice s2.qc made.caps.length s2.cc) ∧ W.cell? ⟨b0, off + A * 8 + 4, none⟩ = some (.slice s2.qk made.consts.length s2.ck) ∧ W.cell? ⟨b0, off + A * 8 + 5, none⟩ = some (.slice s2.qi made.code.length s2.ci) ∧ W.cell? ⟨b0, off + A * 8 + 6, none⟩ = some (.slice s2.ql made.lines.length s2.cl) ∧ W.cell? ⟨b0, off + A * 8 + 7, none⟩ = some (.slice s2.qh made.hs.length s2.ch)) := fun W hW => by
                  obtain ⟨g0, g1, g2, g3, g4, g5, g6, g7⟩ := HCS2.out _ (k2.trans (hW.mono k2.size))
                  obtain ⟨⟨l0, l1, l2, l3, l4, l5, l6, l7⟩, -⟩ := cell_row8 ((hW.block _ (Array.getElem?_eq_some_iff.1 bx2).1).trans bx2)
                  rw [HQ.out] at l5
                  obtain ⟨⟨y0', y1'⟩, -⟩ := cell_row2 ((hW.block _ (Array.getElem?_eq_some_iff.1 ix2).1).trans ix2)
                  exact ⟨(hm2.kept (hW.block _ hm2.lt.2)).at HMA.out, y1', l0, l1, l2, l3, l4, l5, l6, l7, g0, g1, g2, g3, g4, g5, g6, g7⟩
                clear q0 z0 z1 z2 z3 z4 z5 z6 z7 y0 y1
                refine wp_region_held_drew (S := fun W => W.cell? ⟨gm, A, none⟩ = some (.int .i64 m) ∧ W.cell? ⟨wr.heap.size, 1, none⟩ = some (.int .i64 A) ∧ W.cell? ⟨w.heap.size, 0, none⟩ = some (.string f.name) ∧ W.cell? ⟨w.heap.size, 1, none⟩ = some (.int .i64 f.params) ∧ W.cell? ⟨w.heap.size, 2, none⟩ = some (.int .i64 f.locals) ∧ W.cell? ⟨w.heap.size, 3, none⟩ = some (.slice s.qc f.caps.length s.cc) ∧ W.cell? ⟨w.heap.size, 4, none⟩ = some (.slice s.qk f.consts.length s.ck) ∧ W.cell? ⟨w.heap.size, 5, none⟩ = some (.slice (some ⟨bx, ox, none⟩) f.code.length s.ci) ∧ W.cell? ⟨w.heap.size, 6, none⟩ = some (.slice s.ql f.lines.length s.cl) ∧ W.cell? ⟨w.heap.size, 7, none⟩ = some (.slice s.qh f.hs.length s.ch) ∧ W.cell? ⟨b0, off + A * 8, none⟩ = some (.string made.name) ∧ W.cell? ⟨b0, off + A * 8 + 1, none⟩ = some (.int .i64 made.params) ∧ W.cell? ⟨b0, off + A * 8 + 2, none⟩ = some (.int .i64 made.locals) ∧ W.cell? ⟨b0, off + A * 8 + 3, none⟩ = some (.slice s2.qc made.caps.length s2.cc) ∧ W.cell? ⟨b0, off + A * 8 + 4, none⟩ = some (.slice s2.qk made.consts.length s2.ck) ∧ W.cell? ⟨b0, off + A * 8 + 5, none⟩ = some (.slice s2.qi made.code.length s2.ci) ∧ W.cell? ⟨b0, off + A * 8 + 6, none⟩ = some (.slice s2.ql made.lines.length s2.cl) ∧ W.cell? ⟨b0, off + A * 8 + 7, none⟩ = some (.slice s2.qh made.hs.length s2.ch)) (by kernel_rfl) (F.out _ (below_drew (Below.refl _ _))) (fun hHeld => ?_)
                cases cb with
                | false =>
                  refine take_at (i := 0) (d := 49) (v := ?vbf0) rfl rfl (by kernel_rfl) (by kernel_rfl) (by kernel_rfl) (fun _ _ _ h => h) (Or.inl ⟨by rfl, ?hybf0⟩) (by assumption) ?restbf0
                  case hybf0 => (intro w hSw; (try dsimp only at hSw); go_simp; try with_reducible rfl)
                  simp only [List.setIfInBounds_toArray, List.set_cons_zero, List.set_cons_succ]
                  refine take_at (i := 1) (d := 50) (v := ?vbf1) rfl rfl (by kernel_rfl) (by kernel_rfl) (by kernel_rfl) (fun _ _ _ h => h) (Or.inl ⟨by rfl, ?hybf1⟩) (by assumption) ?restbf1
                  case hybf1 => (intro w hSw; (try dsimp only at hSw); go_simp; try with_reducible rfl)
                  simp only [List.setIfInBounds_toArray, List.set_cons_zero, List.set_cons_succ]
                  refine take_at (i := 2) (d := 51) (v := ?vbf2) rfl rfl (by kernel_rfl) (by kernel_rfl) (by kernel_rfl) (fun _ _ _ h => h) (Or.inl ⟨by rfl, ?hybf2⟩) (by assumption) ?restbf2
                  case hybf2 => (intro w hSw; (try dsimp only at hSw); go_simp; try with_reducible rfl)
                  simp only [List.setIfInBounds_toArray, List.set_cons_zero, List.set_cons_succ]
                  refine take_at (i := 3) (d := 52) (v := ?vbf3) rfl rfl (by kernel_rfl) (by kernel_rfl) (by kernel_rfl) (fun _ _ _ h => h) (Or.inl ⟨by rfl, ?hybf3⟩) (by assumption) ?restbf3
                  case hybf3 => (intro w hSw; (try dsimp only at hSw); go_simp; try with_reducible rfl)
                  simp only [List.setIfInBounds_toArray, List.set_cons_zero, List.set_cons_succ]
                  refine take_at (i := 4) (d := 53) (v := ?vbf4) rfl rfl (by kernel_rfl) (by kernel_rfl) (by kernel_rfl) (fun _ _ _ h => h) (Or.inl ⟨by rfl, ?hybf4⟩) (by assumption) ?restbf4
                  case hybf4 => (intro w hSw; (try dsimp only at hSw); go_simp; try with_reducible rfl)
                  simp only [List.setIfInBounds_toArray, List.set_cons_zero, List.set_cons_succ]
                  refine take_at (i := 5) (d := 54) (v := ?vbf5) rfl rfl (by kernel_rfl) (by kernel_rfl) (by kernel_rfl) (fun _ _ _ h => h) (Or.inl ⟨by rfl, ?hybf5⟩) (by assumption) ?restbf5
                  case hybf5 => (intro w hSw; (try dsimp only at hSw); go_simp; try with_reducible rfl)
                  simp only [List.setIfInBounds_toArray, List.set_cons_zero, List.set_cons_succ]
                  refine take_at (i := 6) (d := 55) (v := ?vbf6) rfl rfl (by kernel_rfl) (by kernel_rfl) (by kernel_rfl) (fun _ _ _ h => h) (Or.inl ⟨by rfl, ?hybf6⟩) (by assumption) ?restbf6
                  case hybf6 => (intro w hSw; (try dsimp only at hSw); go_simp; try with_reducible rfl)
                  simp only [List.setIfInBounds_toArray, List.set_cons_zero, List.set_cons_succ]
                  refine take_at (i := 7) (d := 56) (v := undef) rfl rfl (by kernel_rfl) (by kernel_rfl) (by kernel_rfl) (fun _ _ _ h => h) (unwanted_if (j := 6) (d := 55) rfl rfl rfl) (by assumption) ?restbf7
                  simp only [List.setIfInBounds_toArray, List.set_cons_zero, List.set_cons_succ]
                  refine take_at (i := 8) (d := 57) (v := undef) rfl rfl (by kernel_rfl) (by kernel_rfl) (by kernel_rfl) (fun _ _ _ h => h) (unwanted_if (j := 6) (d := 55) rfl rfl rfl) (by assumption) ?restbf8
                  simp only [List.setIfInBounds_toArray, List.set_cons_zero, List.set_cons_succ]
                  refine take_at (i := 9) (d := 58) (v := undef) rfl rfl (by kernel_rfl) (by kernel_rfl) (by kernel_rfl) (fun _ _ _ h => h) (unwanted_if (j := 6) (d := 55) rfl rfl rfl) (by assumption) ?restbf9
                  simp only [List.setIfInBounds_toArray, List.set_cons_zero, List.set_cons_succ]
                  refine take_at (i := 10) (d := 59) (v := undef) rfl rfl (by kernel_rfl) (by kernel_rfl) (by kernel_rfl) (fun _ _ _ h => h) (unwanted_if (j := 6) (d := 55) rfl rfl rfl) (by assumption) ?restbf10
                  simp only [List.setIfInBounds_toArray, List.set_cons_zero, List.set_cons_succ]
                  refine take_at (i := 11) (d := 60) (v := undef) rfl rfl (by kernel_rfl) (by kernel_rfl) (by kernel_rfl) (fun _ _ _ h => h) (unwanted_if (j := 6) (d := 55) rfl rfl rfl) (by assumption) ?restbf11
                  simp only [List.setIfInBounds_toArray, List.set_cons_zero, List.set_cons_succ]
                  refine take_at (i := 12) (d := 61) (v := undef) rfl rfl (by kernel_rfl) (by kernel_rfl) (by kernel_rfl) (fun _ _ _ h => h) (unwanted_if (j := 6) (d := 55) rfl rfl rfl) (by assumption) ?restbf12
                  simp only [List.setIfInBounds_toArray, List.set_cons_zero, List.set_cons_succ]
                  refine take_at (i := 13) (d := 62) (v := undef) rfl rfl (by kernel_rfl) (by kernel_rfl) (by kernel_rfl) (fun _ _ _ h => h) (unwanted_if (j := 6) (d := 55) rfl rfl rfl) (by assumption) ?restbf13
                  simp only [List.setIfInBounds_toArray, List.set_cons_zero, List.set_cons_succ]
                  refine take_at (i := 14) (d := 63) (v := ?vbf14) rfl rfl (by kernel_rfl) (by kernel_rfl) (by kernel_rfl) (fun _ _ _ h => h) (Or.inl ⟨by rfl, ?hybf14⟩) (by assumption) ?restbf14
                  case hybf14 => (intro w hSw; (try dsimp only at hSw); go_simp; try with_reducible rfl)
                  simp only [List.setIfInBounds_toArray, List.set_cons_zero, List.set_cons_succ]
                  refine take_at (i := 15) (d := 64) (v := ?vbf15) rfl rfl (by kernel_rfl) (by kernel_rfl) (by kernel_rfl) (fun _ _ _ h => h) (Or.inl ⟨by rfl, ?hybf15⟩) (by assumption) ?restbf15
                  case hybf15 => (intro w hSw; (try dsimp only at hSw); go_simp; try with_reducible rfl)
                  simp only [List.setIfInBounds_toArray, List.set_cons_zero, List.set_cons_succ]
                  refine take_at (i := 16) (d := 65) (v := ?vbf16) rfl rfl (by kernel_rfl) (by kernel_rfl) (by kernel_rfl) (fun _ _ _ h => h) (Or.inl ⟨by rfl, ?hybf16⟩) (by assumption) ?restbf16
                  case hybf16 => (intro w hSw; (try dsimp only at hSw); go_simp; try with_reducible rfl)
                  simp only [List.setIfInBounds_toArray, List.set_cons_zero, List.set_cons_succ]
                  refine take_at (i := 17) (d := 66) (v := ?vbf17) rfl rfl (by kernel_rfl) (by kernel_rfl) (by kernel_rfl) (fun _ _ _ h => h) (Or.inl ⟨by rfl, ?hybf17⟩) (by assumption) ?restbf17
                  case hybf17 => (intro w hSw; (try dsimp only at hSw); go_simp; try with_reducible rfl)
                  simp only [List.setIfInBounds_toArray, List.set_cons_zero, List.set_cons_succ]
                  refine take_at (i := 18) (d := 67) (v := ?vbf18) rfl rfl (by kernel_rfl) (by kernel_rfl) (by kernel_rfl) (fun _ _ _ h => h) (Or.inl ⟨by rfl, ?hybf18⟩) (by assumption) ?restbf18
                  case hybf18 => (intro w hSw; (try dsimp only at hSw); go_simp; try with_reducible rfl)
                  simp only [List.setIfInBounds_toArray, List.set_cons_zero, List.set_cons_succ]
                  refine take_at (i := 19) (d := 68) (v := ?vbf19) rfl rfl (by kernel_rfl) (by kernel_rfl) (by kernel_rfl) (fun _ _ _ h => h) (Or.inl ⟨by rfl, ?hybf19⟩) (by assumption) ?restbf19
                  case hybf19 => (intro w hSw; (try dsimp only at hSw); go_simp; try with_reducible rfl)
                  simp only [List.setIfInBounds_toArray, List.set_cons_zero, List.set_cons_succ]
                  refine take_at (i := 20) (d := 69) (v := ?vbf20) rfl rfl (by kernel_rfl) (by kernel_rfl) (by kernel_rfl) (fun _ _ _ h => h) (Or.inl ⟨by rfl, ?hybf20⟩) (by assumption) ?restbf20
                  case hybf20 => (intro w hSw; (try dsimp only at hSw); go_simp; try with_reducible rfl)
                  simp only [List.setIfInBounds_toArray, List.set_cons_zero, List.set_cons_succ]
                  refine take_at (i := 21) (d := 70) (v := ?vbf21) rfl rfl (by kernel_rfl) (by kernel_rfl) (by kernel_rfl) (fun _ _ _ h => h) (Or.inl ⟨by rfl, ?hybf21⟩) (by assumption) ?restbf21
                  case hybf21 => (intro w hSw; (try dsimp only at hSw); go_simp; try with_reducible rfl)
                  simp only [List.setIfInBounds_toArray, List.set_cons_zero, List.set_cons_succ]
                  refine wpAnyH_ready (rs := [22]) (by kernel_rfl) (by simp) ?_
                  refine AllReadyH.cons rfl (fun K hK => ?_) AllReadyH.nil
                  go_simp
                  go_at_call 197
                  refine (H3 _ (below_drew k2)).mono ?_
                  rintro e w3 ⟨rfl, hB3⟩
                  have hC1 : Below w2.heap.size w2 w3 := (below_drew (Below.refl w2.heap.size w2)).trans hB3
                  refine hK.out _ _ (F.out _ hC1) (fun hHeld2 => ?_)
                  clear hK hHeld
                  try simp only [Act.put, List.setIfInBounds_toArray, List.set_cons_zero, List.set_cons_succ]
                  refine take_at (i := 23) (d := 72) (v := ?vbf23) rfl rfl (by kernel_rfl) (by kernel_rfl) (by kernel_rfl) (fun _ _ _ h => h) (Or.inl ⟨by rfl, ?hybf23⟩) (by assumption) ?restbf23
                  case hybf23 => (intro w hSw; (try dsimp only at hSw); go_simp; try with_reducible rfl)
                  simp only [List.setIfInBounds_toArray, List.set_cons_zero, List.set_cons_succ]
                  refine take_at (i := 24) (d := 73) (v := ?vbf24) rfl rfl (by kernel_rfl) (by kernel_rfl) (by kernel_rfl) (fun _ _ _ h => h) (Or.inl ⟨by rfl, ?hybf24⟩) (by assumption) ?restbf24
                  case hybf24 => (intro w hSw; (try dsimp only at hSw); go_simp; try with_reducible rfl)
                  simp only [List.setIfInBounds_toArray, List.set_cons_zero, List.set_cons_succ]
                  refine wpAnyH_done (by kernel_rfl) ?_ _
                  go_wp2
                  go_ret
                  rw [STOP.out (by rw [HIN.out])]
                  have k3 := k2.trans (hC1.mono k2.size)
                  exact ⟨rfl, hm2.kept (hC1.block _ hm2.lt.2), hml'.out, k3, ⟨Nat.le_trans bu2.size hC1.size, fun k hk hne => (hC1.block k (Nat.lt_of_lt_of_le hk bu2.size)).trans (bu2.block k hk hne)⟩⟩
                | true =>
                  refine take_at (i := 0) (d := 49) (v := ?vbt0) rfl rfl (by kernel_rfl) (by kernel_rfl) (by kernel_rfl) (fun _ _ _ h => h) (Or.inl ⟨by rfl, ?hybt0⟩) (by assumption) ?restbt0
                  case hybt0 => (intro w hSw; (try dsimp only at hSw); go_simp; try with_reducible rfl)
                  simp only [List.setIfInBounds_toArray, List.set_cons_zero, List.set_cons_succ]
                  refine take_at (i := 1) (d := 50) (v := ?vbt1) rfl rfl (by kernel_rfl) (by kernel_rfl) (by kernel_rfl) (fun _ _ _ h => h) (Or.inl ⟨by rfl, ?hybt1⟩) (by assumption) ?restbt1
                  case hybt1 => (intro w hSw; (try dsimp only at hSw); go_simp; try with_reducible rfl)
                  simp only [List.setIfInBounds_toArray, List.set_cons_zero, List.set_cons_succ]
                  refine take_at (i := 2) (d := 51) (v := ?vbt2) rfl rfl (by kernel_rfl) (by kernel_rfl) (by kernel_rfl) (fun _ _ _ h => h) (Or.inl ⟨by rfl, ?hybt2⟩) (by assumption) ?restbt2
                  case hybt2 => (intro w hSw; (try dsimp only at hSw); go_simp; try with_reducible rfl)
                  simp only [List.setIfInBounds_toArray, List.set_cons_zero, List.set_cons_succ]
                  refine take_at (i := 3) (d := 52) (v := ?vbt3) rfl rfl (by kernel_rfl) (by kernel_rfl) (by kernel_rfl) (fun _ _ _ h => h) (Or.inl ⟨by rfl, ?hybt3⟩) (by assumption) ?restbt3
                  case hybt3 => (intro w hSw; (try dsimp only at hSw); go_simp; try with_reducible rfl)
                  simp only [List.setIfInBounds_toArray, List.set_cons_zero, List.set_cons_succ]
                  refine take_at (i := 4) (d := 53) (v := ?vbt4) rfl rfl (by kernel_rfl) (by kernel_rfl) (by kernel_rfl) (fun _ _ _ h => h) (Or.inl ⟨by rfl, ?hybt4⟩) (by assumption) ?restbt4
                  case hybt4 => (intro w hSw; (try dsimp only at hSw); go_simp; try with_reducible rfl)
                  simp only [List.setIfInBounds_toArray, List.set_cons_zero, List.set_cons_succ]
                  refine take_at (i := 5) (d := 54) (v := ?vbt5) rfl rfl (by kernel_rfl) (by kernel_rfl) (by kernel_rfl) (fun _ _ _ h => h) (Or.inl ⟨by rfl, ?hybt5⟩) (by assumption) ?restbt5
                  case hybt5 => (intro w hSw; (try dsimp only at hSw); go_simp; try with_reducible rfl)
                  simp only [List.setIfInBounds_toArray, List.set_cons_zero, List.set_cons_succ]
                  refine take_at (i := 6) (d := 55) (v := ?vbt6) rfl rfl (by kernel_rfl) (by kernel_rfl) (by kernel_rfl) (fun _ _ _ h => h) (Or.inl ⟨by rfl, ?hybt6⟩) (by assumption) ?restbt6
                  case hybt6 => (intro w hSw; (try dsimp only at hSw); go_simp; try with_reducible rfl)
                  simp only [List.setIfInBounds_toArray, List.set_cons_zero, List.set_cons_succ]
                  refine take_at (i := 7) (d := 56) (v := undef) rfl rfl (by kernel_rfl) (by kernel_rfl) (by kernel_rfl) (fun _ _ _ h => h) (unwanted_if (j := 6) (d := 55) rfl rfl rfl) (by assumption) ?restbt7
                  simp only [List.setIfInBounds_toArray, List.set_cons_zero, List.set_cons_succ]
                  refine take_at (i := 8) (d := 57) (v := undef) rfl rfl (by kernel_rfl) (by kernel_rfl) (by kernel_rfl) (fun _ _ _ h => h) (unwanted_if (j := 6) (d := 55) rfl rfl rfl) (by assumption) ?restbt8
                  simp only [List.setIfInBounds_toArray, List.set_cons_zero, List.set_cons_succ]
                  refine take_at (i := 9) (d := 58) (v := undef) rfl rfl (by kernel_rfl) (by kernel_rfl) (by kernel_rfl) (fun _ _ _ h => h) (unwanted_if (j := 6) (d := 55) rfl rfl rfl) (by assumption) ?restbt9
                  simp only [List.setIfInBounds_toArray, List.set_cons_zero, List.set_cons_succ]
                  refine take_at (i := 10) (d := 59) (v := undef) rfl rfl (by kernel_rfl) (by kernel_rfl) (by kernel_rfl) (fun _ _ _ h => h) (unwanted_if (j := 6) (d := 55) rfl rfl rfl) (by assumption) ?restbt10
                  simp only [List.setIfInBounds_toArray, List.set_cons_zero, List.set_cons_succ]
                  refine take_at (i := 11) (d := 60) (v := undef) rfl rfl (by kernel_rfl) (by kernel_rfl) (by kernel_rfl) (fun _ _ _ h => h) (unwanted_if (j := 6) (d := 55) rfl rfl rfl) (by assumption) ?restbt11
                  simp only [List.setIfInBounds_toArray, List.set_cons_zero, List.set_cons_succ]
                  refine take_at (i := 12) (d := 61) (v := undef) rfl rfl (by kernel_rfl) (by kernel_rfl) (by kernel_rfl) (fun _ _ _ h => h) (unwanted_if (j := 6) (d := 55) rfl rfl rfl) (by assumption) ?restbt12
                  simp only [List.setIfInBounds_toArray, List.set_cons_zero, List.set_cons_succ]
                  refine take_at (i := 13) (d := 62) (v := undef) rfl rfl (by kernel_rfl) (by kernel_rfl) (by kernel_rfl) (fun _ _ _ h => h) (unwanted_if (j := 6) (d := 55) rfl rfl rfl) (by assumption) ?restbt13
                  simp only [List.setIfInBounds_toArray, List.set_cons_zero, List.set_cons_succ]
                  refine take_at (i := 14) (d := 63) (v := ?vbt14) rfl rfl (by kernel_rfl) (by kernel_rfl) (by kernel_rfl) (fun _ _ _ h => h) (Or.inl ⟨by rfl, ?hybt14⟩) (by assumption) ?restbt14
                  case hybt14 => (intro w hSw; (try dsimp only at hSw); go_simp; try with_reducible rfl)
                  simp only [List.setIfInBounds_toArray, List.set_cons_zero, List.set_cons_succ]
                  refine take_at (i := 15) (d := 64) (v := ?vbt15) rfl rfl (by kernel_rfl) (by kernel_rfl) (by kernel_rfl) (fun _ _ _ h => h) (Or.inl ⟨by rfl, ?hybt15⟩) (by assumption) ?restbt15
                  case hybt15 => (intro w hSw; (try dsimp only at hSw); go_simp; try with_reducible rfl)
                  simp only [List.setIfInBounds_toArray, List.set_cons_zero, List.set_cons_succ]
                  refine take_at (i := 16) (d := 65) (v := ?vbt16) rfl rfl (by kernel_rfl) (by kernel_rfl) (by kernel_rfl) (fun _ _ _ h => h) (Or.inl ⟨by rfl, ?hybt16⟩) (by assumption) ?restbt16
                  case hybt16 => (intro w hSw; (try dsimp only at hSw); go_simp; try with_reducible rfl)
                  simp only [List.setIfInBounds_toArray, List.set_cons_zero, List.set_cons_succ]
                  refine take_at (i := 17) (d := 66) (v := ?vbt17) rfl rfl (by kernel_rfl) (by kernel_rfl) (by kernel_rfl) (fun _ _ _ h => h) (Or.inl ⟨by rfl, ?hybt17⟩) (by assumption) ?restbt17
                  case hybt17 => (intro w hSw; (try dsimp only at hSw); go_simp; try with_reducible rfl)
                  simp only [List.setIfInBounds_toArray, List.set_cons_zero, List.set_cons_succ]
                  refine take_at (i := 18) (d := 67) (v := ?vbt18) rfl rfl (by kernel_rfl) (by kernel_rfl) (by kernel_rfl) (fun _ _ _ h => h) (Or.inl ⟨by rfl, ?hybt18⟩) (by assumption) ?restbt18
                  case hybt18 => (intro w hSw; (try dsimp only at hSw); go_simp; try with_reducible rfl)
                  simp only [List.setIfInBounds_toArray, List.set_cons_zero, List.set_cons_succ]
                  refine take_at (i := 19) (d := 68) (v := ?vbt19) rfl rfl (by kernel_rfl) (by kernel_rfl) (by kernel_rfl) (fun _ _ _ h => h) (Or.inl ⟨by rfl, ?hybt19⟩) (by assumption) ?restbt19
                  case hybt19 => (intro w hSw; (try dsimp only at hSw); go_simp; try with_reducible rfl)
                  simp only [List.setIfInBounds_toArray, List.set_cons_zero, List.set_cons_succ]
                  refine take_at (i := 20) (d := 69) (v := ?vbt20) rfl rfl (by kernel_rfl) (by kernel_rfl) (by kernel_rfl) (fun _ _ _ h => h) (Or.inl ⟨by rfl, ?hybt20⟩) (by assumption) ?restbt20
                  case hybt20 => (intro w hSw; (try dsimp only at hSw); go_simp; try with_reducible rfl)
                  simp only [List.setIfInBounds_toArray, List.set_cons_zero, List.set_cons_succ]
                  refine take_at (i := 21) (d := 70) (v := ?vbt21) rfl rfl (by kernel_rfl) (by kernel_rfl) (by kernel_rfl) (fun _ _ _ h => h) (Or.inl ⟨by rfl, ?hybt21⟩) (by assumption) ?restbt21
                  case hybt21 => (intro w hSw; (try dsimp only at hSw); go_simp; try with_reducible rfl)
                  simp only [List.setIfInBounds_toArray, List.set_cons_zero, List.set_cons_succ]
                  refine wpAnyH_ready (rs := [22]) (by kernel_rfl) (by simp) ?_
                  refine AllReadyH.cons rfl (fun K hK => ?_) AllReadyH.nil
                  go_simp
                  go_at_call 197
                  refine (H3 _ (below_drew k2)).mono ?_
                  rintro e w3 ⟨rfl, hB3⟩
                  have hC1 : Below w2.heap.size w2 w3 := (below_drew (Below.refl w2.heap.size w2)).trans hB3
                  refine hK.out _ _ (F.out _ hC1) (fun hHeld2 => ?_)
                  clear hK hHeld
                  try simp only [Act.put, List.setIfInBounds_toArray, List.set_cons_zero, List.set_cons_succ]
                  refine take_at (i := 23) (d := 72) (v := ?vbt23) rfl rfl (by kernel_rfl) (by kernel_rfl) (by kernel_rfl) (fun _ _ _ h => h) (Or.inl ⟨by rfl, ?hybt23⟩) (by assumption) ?restbt23
                  case hybt23 => (intro w hSw; (try dsimp only at hSw); go_simp; try with_reducible rfl)
                  simp only [List.setIfInBounds_toArray, List.set_cons_zero, List.set_cons_succ]
                  refine take_at (i := 24) (d := 73) (v := ?vbt24) rfl rfl (by kernel_rfl) (by kernel_rfl) (by kernel_rfl) (fun _ _ _ h => h) (Or.inl ⟨by rfl, ?hybt24⟩) (by assumption) ?restbt24
                  case hybt24 => (intro w hSw; (try dsimp only at hSw); go_simp; try with_reducible rfl)
                  simp only [List.setIfInBounds_toArray, List.set_cons_zero, List.set_cons_succ]
                  refine wpAnyH_done (by kernel_rfl) ?_ _
                  have hm3 := hm2.kept (hC1.block _ hm2.lt.2)
                  have fz := hm3.frozen A
                  obtain ⟨⟨y0, y1⟩, -⟩ := cell_row2 ((hC1.block _ (Array.getElem?_eq_some_iff.1 ix2).1).trans ix2)
                  go_wp2
                  go_roundw
                  case rel =>
                    have k3 := k2.trans (hC1.mono k2.size)
                    have hAl : A < mk'.length := by have := HML.out; have := hml'.out; omega
                    refine ⟨pre ++ [⟨26, (A : Int)⟩], rest, mk'.set A fn, by rw [e1], HR.out, by rw [GO.out (by rw [HIN.out]), MK.out], by rw [List.length_set]; exact hml'.out, ?_, ?_, below_set k3 hm3.lt.1 _, ?_, ?_⟩
                    · intro x hx
                      rcases List.mem_or_eq_of_mem_set hx with h | h
                      · exact hmr.out x h
                      · omega
                    · have := hm3.set hAl (fn : Int)
                      exact this
                    · exact ⟨by have := Nat.le_trans bu2.size hC1.size; simpa [World.setCell] using this, fun k hk hne => (heap_setCell_other w3 ⟨gm, A, none⟩ k _ hne).trans ((hC1.block k (Nat.lt_of_lt_of_le hk bu2.size)).trans (bu2.block k hk hne))⟩
                    · rw [heap_setCell_other w3 ⟨gm, A, none⟩ w.heap.size _ (by simp only; omega)]
                      exact (hC1.block _ (Array.getElem?_eq_some_iff.1 bx2).1).trans bx2
                  case measure => simp [intOf]; omega
              · have hmf : Hid (m = (fn : Int)) := (by omega : m = (fn : Int))
                have hz : 0 ≤ m := by omega
                have hmb : (m != (fn : Int)) = false := by simp; exact hmf.out
                have hmc : (m == (fn : Int)) = true := by simp; exact hmf.out
                clear hok hma
                go_wp2_with (first
                  | (go_at_call 195; refine H1.mono ?_; clear H1; rintro e w2 ⟨rfl, hB2⟩; obtain ⟨hm2, k2, bu2, bx2, ix2⟩ := AFT.out _ hB2; obtain ⟨⟨z0, z1, z2, z3, z4, z5, z6, z7⟩, -⟩ := cell_row8 bx2; rw [HQ.out] at z5; obtain ⟨⟨y0, y1⟩, -⟩ := cell_row2 ix2))
                have q0 := hm2.at HMA.out
                have F : Hid (∀ W, Below w2.heap.size w2 W → W.cell? ⟨gm, A, none⟩ = some (.int .i64 m) ∧ W.cell? ⟨wr.heap.size, 1, none⟩ = some (.int .i64 A) ∧ W.cell? ⟨w.heap.size, 0, none⟩ = some (.string f.name) ∧ W.cell? ⟨w.heap.size, 1, none⟩ = some (.int .i64 f.params) ∧ W.cell? ⟨w.heap.size, 2, none⟩ = some (.int .i64 f.locals) ∧ W.cell? ⟨w.heap.size, 3, none⟩ = some (.slice s.qc f.caps.length s.cc) ∧ W.cell? ⟨w.heap.size, 4, none⟩ = some (.slice s.qk f.consts.length s.ck) ∧ W.cell? ⟨w.heap.size, 5, none⟩ = some (.slice (some ⟨bx, ox, none⟩) f.code.length s.ci) ∧ W.cell? ⟨w.heap.size, 6, none⟩ = some (.slice s.ql f.lines.length s.cl) ∧ W.cell? ⟨w.heap.size, 7, none⟩ = some (.slice s.qh f.hs.length s.ch) ∧ W.cell? ⟨b0, off + A * 8, none⟩ = some (.string made.name) ∧ W.cell? ⟨b0, off + A * 8 + 1, none⟩ = some (.int .i64 made.params) ∧ W.cell? ⟨b0, off + A * 8 + 2, none⟩ = some (.int .i64 made.locals) ∧ W.cell? ⟨b0, off + A * 8 + 3, none⟩ = some (.slice s2.qc made.caps.length s2.cc) ∧ W.cell? ⟨b0, off + A * 8 + 4, none⟩ = some (.slice s2.qk made.consts.length s2.ck) ∧ W.cell? ⟨b0, off + A * 8 + 5, none⟩ = some (.slice s2.qi made.code.length s2.ci) ∧ W.cell? ⟨b0, off + A * 8 + 6, none⟩ = some (.slice s2.ql made.lines.length s2.cl) ∧ W.cell? ⟨b0, off + A * 8 + 7, none⟩ = some (.slice s2.qh made.hs.length s2.ch)) := fun W hW => by
                  obtain ⟨g0, g1, g2, g3, g4, g5, g6, g7⟩ := HCS2.out _ (k2.trans (hW.mono k2.size))
                  obtain ⟨⟨l0, l1, l2, l3, l4, l5, l6, l7⟩, -⟩ := cell_row8 ((hW.block _ (Array.getElem?_eq_some_iff.1 bx2).1).trans bx2)
                  rw [HQ.out] at l5
                  obtain ⟨⟨y0', y1'⟩, -⟩ := cell_row2 ((hW.block _ (Array.getElem?_eq_some_iff.1 ix2).1).trans ix2)
                  exact ⟨(hm2.kept (hW.block _ hm2.lt.2)).at HMA.out, y1', l0, l1, l2, l3, l4, l5, l6, l7, g0, g1, g2, g3, g4, g5, g6, g7⟩
                clear q0 z0 z1 z2 z3 z4 z5 z6 z7 y0 y1
                refine wp_region_held_drew (S := fun W => W.cell? ⟨gm, A, none⟩ = some (.int .i64 m) ∧ W.cell? ⟨wr.heap.size, 1, none⟩ = some (.int .i64 A) ∧ W.cell? ⟨w.heap.size, 0, none⟩ = some (.string f.name) ∧ W.cell? ⟨w.heap.size, 1, none⟩ = some (.int .i64 f.params) ∧ W.cell? ⟨w.heap.size, 2, none⟩ = some (.int .i64 f.locals) ∧ W.cell? ⟨w.heap.size, 3, none⟩ = some (.slice s.qc f.caps.length s.cc) ∧ W.cell? ⟨w.heap.size, 4, none⟩ = some (.slice s.qk f.consts.length s.ck) ∧ W.cell? ⟨w.heap.size, 5, none⟩ = some (.slice (some ⟨bx, ox, none⟩) f.code.length s.ci) ∧ W.cell? ⟨w.heap.size, 6, none⟩ = some (.slice s.ql f.lines.length s.cl) ∧ W.cell? ⟨w.heap.size, 7, none⟩ = some (.slice s.qh f.hs.length s.ch) ∧ W.cell? ⟨b0, off + A * 8, none⟩ = some (.string made.name) ∧ W.cell? ⟨b0, off + A * 8 + 1, none⟩ = some (.int .i64 made.params) ∧ W.cell? ⟨b0, off + A * 8 + 2, none⟩ = some (.int .i64 made.locals) ∧ W.cell? ⟨b0, off + A * 8 + 3, none⟩ = some (.slice s2.qc made.caps.length s2.cc) ∧ W.cell? ⟨b0, off + A * 8 + 4, none⟩ = some (.slice s2.qk made.consts.length s2.ck) ∧ W.cell? ⟨b0, off + A * 8 + 5, none⟩ = some (.slice s2.qi made.code.length s2.ci) ∧ W.cell? ⟨b0, off + A * 8 + 6, none⟩ = some (.slice s2.ql made.lines.length s2.cl) ∧ W.cell? ⟨b0, off + A * 8 + 7, none⟩ = some (.slice s2.qh made.hs.length s2.ch)) (by kernel_rfl) (F.out _ (below_drew (Below.refl _ _))) (fun hHeld => ?_)
                cases cb with
                | false =>
                  refine take_at (i := 0) (d := 49) (v := ?vcf0) rfl rfl (by kernel_rfl) (by kernel_rfl) (by kernel_rfl) (fun _ _ _ h => h) (Or.inl ⟨by rfl, ?hycf0⟩) (by assumption) ?restcf0
                  case hycf0 => (intro w hSw; (try dsimp only at hSw); go_simp; try with_reducible rfl)
                  simp only [List.setIfInBounds_toArray, List.set_cons_zero, List.set_cons_succ]
                  refine take_at (i := 1) (d := 50) (v := ?vcf1) rfl rfl (by kernel_rfl) (by kernel_rfl) (by kernel_rfl) (fun _ _ _ h => h) (Or.inl ⟨by rfl, ?hycf1⟩) (by assumption) ?restcf1
                  case hycf1 => (intro w hSw; (try dsimp only at hSw); go_simp; try with_reducible rfl)
                  simp only [List.setIfInBounds_toArray, List.set_cons_zero, List.set_cons_succ]
                  refine take_at (i := 2) (d := 51) (v := ?vcf2) rfl rfl (by kernel_rfl) (by kernel_rfl) (by kernel_rfl) (fun _ _ _ h => h) (Or.inl ⟨by rfl, ?hycf2⟩) (by assumption) ?restcf2
                  case hycf2 => (intro w hSw; (try dsimp only at hSw); go_simp; try with_reducible rfl)
                  simp only [List.setIfInBounds_toArray, List.set_cons_zero, List.set_cons_succ]
                  refine take_at (i := 3) (d := 52) (v := ?vcf3) rfl rfl (by kernel_rfl) (by kernel_rfl) (by kernel_rfl) (fun _ _ _ h => h) (Or.inl ⟨by rfl, ?hycf3⟩) (by assumption) ?restcf3
                  case hycf3 => (intro w hSw; (try dsimp only at hSw); go_simp; try with_reducible rfl)
                  simp only [List.setIfInBounds_toArray, List.set_cons_zero, List.set_cons_succ]
                  refine take_at (i := 4) (d := 53) (v := ?vcf4) rfl rfl (by kernel_rfl) (by kernel_rfl) (by kernel_rfl) (fun _ _ _ h => h) (Or.inl ⟨by rfl, ?hycf4⟩) (by assumption) ?restcf4
                  case hycf4 => (intro w hSw; (try dsimp only at hSw); go_simp; try with_reducible rfl)
                  simp only [List.setIfInBounds_toArray, List.set_cons_zero, List.set_cons_succ]
                  refine take_at (i := 5) (d := 54) (v := ?vcf5) rfl rfl (by kernel_rfl) (by kernel_rfl) (by kernel_rfl) (fun _ _ _ h => h) (Or.inl ⟨by rfl, ?hycf5⟩) (by assumption) ?restcf5
                  case hycf5 => (intro w hSw; (try dsimp only at hSw); go_simp; try with_reducible rfl)
                  simp only [List.setIfInBounds_toArray, List.set_cons_zero, List.set_cons_succ]
                  refine take_at (i := 6) (d := 55) (v := ?vcf6) rfl rfl (by kernel_rfl) (by kernel_rfl) (by kernel_rfl) (fun _ _ _ h => h) (Or.inl ⟨by rfl, ?hycf6⟩) (by assumption) ?restcf6
                  case hycf6 => (intro w hSw; (try dsimp only at hSw); go_simp; try with_reducible rfl)
                  simp only [List.setIfInBounds_toArray, List.set_cons_zero, List.set_cons_succ]
                  refine take_at (i := 7) (d := 56) (v := ?vcf7) rfl rfl (by kernel_rfl) (by kernel_rfl) (by kernel_rfl) (fun _ _ _ h => h) (Or.inl ⟨by rfl, ?hycf7⟩) (by assumption) ?restcf7
                  case hycf7 => (intro w hSw; (try dsimp only at hSw); go_simp; try with_reducible rfl)
                  simp only [List.setIfInBounds_toArray, List.set_cons_zero, List.set_cons_succ]
                  refine take_at (i := 8) (d := 57) (v := ?vcf8) rfl rfl (by kernel_rfl) (by kernel_rfl) (by kernel_rfl) (fun _ _ _ h => h) (Or.inl ⟨by rfl, ?hycf8⟩) (by assumption) ?restcf8
                  case hycf8 => (intro w hSw; (try dsimp only at hSw); go_simp; try with_reducible rfl)
                  simp only [List.setIfInBounds_toArray, List.set_cons_zero, List.set_cons_succ]
                  refine take_at (i := 9) (d := 58) (v := ?vcf9) rfl rfl (by kernel_rfl) (by kernel_rfl) (by kernel_rfl) (fun _ _ _ h => h) (Or.inl ⟨by rfl, ?hycf9⟩) (by assumption) ?restcf9
                  case hycf9 => (intro w hSw; (try dsimp only at hSw); go_simp; try with_reducible rfl)
                  simp only [List.setIfInBounds_toArray, List.set_cons_zero, List.set_cons_succ]
                  refine take_at (i := 10) (d := 59) (v := ?vcf10) rfl rfl (by kernel_rfl) (by kernel_rfl) (by kernel_rfl) (fun _ _ _ h => h) (Or.inl ⟨by rfl, ?hycf10⟩) (by assumption) ?restcf10
                  case hycf10 => (intro w hSw; (try dsimp only at hSw); go_simp; try with_reducible rfl)
                  simp only [List.setIfInBounds_toArray, List.set_cons_zero, List.set_cons_succ]
                  refine take_at (i := 11) (d := 60) (v := ?vcf11) rfl rfl (by kernel_rfl) (by kernel_rfl) (by kernel_rfl) (fun _ _ _ h => h) (Or.inl ⟨by rfl, ?hycf11⟩) (by assumption) ?restcf11
                  case hycf11 => (intro w hSw; (try dsimp only at hSw); go_simp; try with_reducible rfl)
                  simp only [List.setIfInBounds_toArray, List.set_cons_zero, List.set_cons_succ]
                  refine take_at (i := 12) (d := 61) (v := ?vcf12) rfl rfl (by kernel_rfl) (by kernel_rfl) (by kernel_rfl) (fun _ _ _ h => h) (Or.inl ⟨by rfl, ?hycf12⟩) (by assumption) ?restcf12
                  case hycf12 => (intro w hSw; (try dsimp only at hSw); go_simp; try with_reducible rfl)
                  simp only [List.setIfInBounds_toArray, List.set_cons_zero, List.set_cons_succ]
                  refine take_at (i := 13) (d := 62) (v := ?vcf13) rfl rfl (by kernel_rfl) (by kernel_rfl) (by kernel_rfl) (fun _ _ _ h => h) (Or.inl ⟨by rfl, ?hycf13⟩) (by assumption) ?restcf13
                  case hycf13 => (intro w hSw; (try dsimp only at hSw); go_simp; try with_reducible rfl)
                  simp only [List.setIfInBounds_toArray, List.set_cons_zero, List.set_cons_succ]
                  refine take_at (i := 14) (d := 63) (v := ?vcf14) rfl rfl (by kernel_rfl) (by kernel_rfl) (by kernel_rfl) (fun _ _ _ h => h) (Or.inl ⟨by rfl, ?hycf14⟩) (by assumption) ?restcf14
                  case hycf14 => (intro w hSw; (try dsimp only at hSw); go_simp; try with_reducible rfl)
                  simp only [List.setIfInBounds_toArray, List.set_cons_zero, List.set_cons_succ]
                  refine take_at (i := 15) (d := 64) (v := ?vcf15) rfl rfl (by kernel_rfl) (by kernel_rfl) (by kernel_rfl) (fun _ _ _ h => h) (Or.inl ⟨by rfl, ?hycf15⟩) (by assumption) ?restcf15
                  case hycf15 => (intro w hSw; (try dsimp only at hSw); go_simp; try with_reducible rfl)
                  simp only [List.setIfInBounds_toArray, List.set_cons_zero, List.set_cons_succ]
                  refine take_at (i := 16) (d := 65) (v := ?vcf16) rfl rfl (by kernel_rfl) (by kernel_rfl) (by kernel_rfl) (fun _ _ _ h => h) (Or.inl ⟨by rfl, ?hycf16⟩) (by assumption) ?restcf16
                  case hycf16 => (intro w hSw; (try dsimp only at hSw); go_simp; try with_reducible rfl)
                  simp only [List.setIfInBounds_toArray, List.set_cons_zero, List.set_cons_succ]
                  refine take_at (i := 17) (d := 66) (v := ?vcf17) rfl rfl (by kernel_rfl) (by kernel_rfl) (by kernel_rfl) (fun _ _ _ h => h) (Or.inl ⟨by rfl, ?hycf17⟩) (by assumption) ?restcf17
                  case hycf17 => (intro w hSw; (try dsimp only at hSw); go_simp; try with_reducible rfl)
                  simp only [List.setIfInBounds_toArray, List.set_cons_zero, List.set_cons_succ]
                  refine take_at (i := 18) (d := 67) (v := ?vcf18) rfl rfl (by kernel_rfl) (by kernel_rfl) (by kernel_rfl) (fun _ _ _ h => h) (Or.inl ⟨by rfl, ?hycf18⟩) (by assumption) ?restcf18
                  case hycf18 => (intro w hSw; (try dsimp only at hSw); go_simp; try with_reducible rfl)
                  simp only [List.setIfInBounds_toArray, List.set_cons_zero, List.set_cons_succ]
                  refine take_at (i := 19) (d := 68) (v := ?vcf19) rfl rfl (by kernel_rfl) (by kernel_rfl) (by kernel_rfl) (fun _ _ _ h => h) (Or.inl ⟨by rfl, ?hycf19⟩) (by assumption) ?restcf19
                  case hycf19 => (intro w hSw; (try dsimp only at hSw); go_simp; try with_reducible rfl)
                  simp only [List.setIfInBounds_toArray, List.set_cons_zero, List.set_cons_succ]
                  refine take_at (i := 20) (d := 69) (v := ?vcf20) rfl rfl (by kernel_rfl) (by kernel_rfl) (by kernel_rfl) (fun _ _ _ h => h) (Or.inl ⟨by rfl, ?hycf20⟩) (by assumption) ?restcf20
                  case hycf20 => (intro w hSw; (try dsimp only at hSw); go_simp; try with_reducible rfl)
                  simp only [List.setIfInBounds_toArray, List.set_cons_zero, List.set_cons_succ]
                  refine take_at (i := 21) (d := 70) (v := ?vcf21) rfl rfl (by kernel_rfl) (by kernel_rfl) (by kernel_rfl) (fun _ _ _ h => h) (Or.inl ⟨by rfl, ?hycf21⟩) (by assumption) ?restcf21
                  case hycf21 => (intro w hSw; (try dsimp only at hSw); go_simp; try with_reducible rfl)
                  simp only [List.setIfInBounds_toArray, List.set_cons_zero, List.set_cons_succ]
                  refine wpAnyH_ready (rs := [22]) (by kernel_rfl) (by simp) ?_
                  refine AllReadyH.cons rfl (fun K hK => ?_) AllReadyH.nil
                  go_simp
                  go_at_call 197
                  refine (H3 _ (below_drew k2)).mono ?_
                  rintro e w3 ⟨rfl, hB3⟩
                  have hC1 : Below w2.heap.size w2 w3 := (below_drew (Below.refl w2.heap.size w2)).trans hB3
                  refine hK.out _ _ (F.out _ hC1) (fun hHeld2 => ?_)
                  clear hK hHeld
                  try simp only [Act.put, List.setIfInBounds_toArray, List.set_cons_zero, List.set_cons_succ]
                  refine take_at (i := 23) (d := 72) (v := ?vcf23) rfl rfl (by kernel_rfl) (by kernel_rfl) (by kernel_rfl) (fun _ _ _ h => h) (Or.inl ⟨by rfl, ?hycf23⟩) (by assumption) ?restcf23
                  case hycf23 => (intro w hSw; (try dsimp only at hSw); go_simp; try with_reducible rfl)
                  simp only [List.setIfInBounds_toArray, List.set_cons_zero, List.set_cons_succ]
                  refine take_at (i := 24) (d := 73) (v := ?vcf24) rfl rfl (by kernel_rfl) (by kernel_rfl) (by kernel_rfl) (fun _ _ _ h => h) (Or.inl ⟨by rfl, ?hycf24⟩) (by assumption) ?restcf24
                  case hycf24 => (intro w hSw; (try dsimp only at hSw); go_simp; try with_reducible rfl)
                  simp only [List.setIfInBounds_toArray, List.set_cons_zero, List.set_cons_succ]
                  refine wpAnyH_done (by kernel_rfl) ?_ _
                  go_wp2
                  go_ret
                  rw [STOP.out (by rw [HIN.out])]
                  have k3 := k2.trans (hC1.mono k2.size)
                  exact ⟨rfl, hm2.kept (hC1.block _ hm2.lt.2), hml'.out, k3, ⟨Nat.le_trans bu2.size hC1.size, fun k hk hne => (hC1.block k (Nat.lt_of_lt_of_le hk bu2.size)).trans (bu2.block k hk hne)⟩⟩
                | true =>
                  refine take_at (i := 0) (d := 49) (v := ?vct0) rfl rfl (by kernel_rfl) (by kernel_rfl) (by kernel_rfl) (fun _ _ _ h => h) (Or.inl ⟨by rfl, ?hyct0⟩) (by assumption) ?restct0
                  case hyct0 => (intro w hSw; (try dsimp only at hSw); go_simp; try with_reducible rfl)
                  simp only [List.setIfInBounds_toArray, List.set_cons_zero, List.set_cons_succ]
                  refine take_at (i := 1) (d := 50) (v := ?vct1) rfl rfl (by kernel_rfl) (by kernel_rfl) (by kernel_rfl) (fun _ _ _ h => h) (Or.inl ⟨by rfl, ?hyct1⟩) (by assumption) ?restct1
                  case hyct1 => (intro w hSw; (try dsimp only at hSw); go_simp; try with_reducible rfl)
                  simp only [List.setIfInBounds_toArray, List.set_cons_zero, List.set_cons_succ]
                  refine take_at (i := 2) (d := 51) (v := ?vct2) rfl rfl (by kernel_rfl) (by kernel_rfl) (by kernel_rfl) (fun _ _ _ h => h) (Or.inl ⟨by rfl, ?hyct2⟩) (by assumption) ?restct2
                  case hyct2 => (intro w hSw; (try dsimp only at hSw); go_simp; try with_reducible rfl)
                  simp only [List.setIfInBounds_toArray, List.set_cons_zero, List.set_cons_succ]
                  refine take_at (i := 3) (d := 52) (v := ?vct3) rfl rfl (by kernel_rfl) (by kernel_rfl) (by kernel_rfl) (fun _ _ _ h => h) (Or.inl ⟨by rfl, ?hyct3⟩) (by assumption) ?restct3
                  case hyct3 => (intro w hSw; (try dsimp only at hSw); go_simp; try with_reducible rfl)
                  simp only [List.setIfInBounds_toArray, List.set_cons_zero, List.set_cons_succ]
                  refine take_at (i := 4) (d := 53) (v := ?vct4) rfl rfl (by kernel_rfl) (by kernel_rfl) (by kernel_rfl) (fun _ _ _ h => h) (Or.inl ⟨by rfl, ?hyct4⟩) (by assumption) ?restct4
                  case hyct4 => (intro w hSw; (try dsimp only at hSw); go_simp; try with_reducible rfl)
                  simp only [List.setIfInBounds_toArray, List.set_cons_zero, List.set_cons_succ]
                  refine take_at (i := 5) (d := 54) (v := ?vct5) rfl rfl (by kernel_rfl) (by kernel_rfl) (by kernel_rfl) (fun _ _ _ h => h) (Or.inl ⟨by rfl, ?hyct5⟩) (by assumption) ?restct5
                  case hyct5 => (intro w hSw; (try dsimp only at hSw); go_simp; try with_reducible rfl)
                  simp only [List.setIfInBounds_toArray, List.set_cons_zero, List.set_cons_succ]
                  refine take_at (i := 6) (d := 55) (v := ?vct6) rfl rfl (by kernel_rfl) (by kernel_rfl) (by kernel_rfl) (fun _ _ _ h => h) (Or.inl ⟨by rfl, ?hyct6⟩) (by assumption) ?restct6
                  case hyct6 => (intro w hSw; (try dsimp only at hSw); go_simp; try with_reducible rfl)
                  simp only [List.setIfInBounds_toArray, List.set_cons_zero, List.set_cons_succ]
                  refine take_at (i := 7) (d := 56) (v := ?vct7) rfl rfl (by kernel_rfl) (by kernel_rfl) (by kernel_rfl) (fun _ _ _ h => h) (Or.inl ⟨by rfl, ?hyct7⟩) (by assumption) ?restct7
                  case hyct7 => (intro w hSw; (try dsimp only at hSw); go_simp; try with_reducible rfl)
                  simp only [List.setIfInBounds_toArray, List.set_cons_zero, List.set_cons_succ]
                  refine take_at (i := 8) (d := 57) (v := ?vct8) rfl rfl (by kernel_rfl) (by kernel_rfl) (by kernel_rfl) (fun _ _ _ h => h) (Or.inl ⟨by rfl, ?hyct8⟩) (by assumption) ?restct8
                  case hyct8 => (intro w hSw; (try dsimp only at hSw); go_simp; try with_reducible rfl)
                  simp only [List.setIfInBounds_toArray, List.set_cons_zero, List.set_cons_succ]
                  refine take_at (i := 9) (d := 58) (v := ?vct9) rfl rfl (by kernel_rfl) (by kernel_rfl) (by kernel_rfl) (fun _ _ _ h => h) (Or.inl ⟨by rfl, ?hyct9⟩) (by assumption) ?restct9
                  case hyct9 => (intro w hSw; (try dsimp only at hSw); go_simp; try with_reducible rfl)
                  simp only [List.setIfInBounds_toArray, List.set_cons_zero, List.set_cons_succ]
                  refine take_at (i := 10) (d := 59) (v := ?vct10) rfl rfl (by kernel_rfl) (by kernel_rfl) (by kernel_rfl) (fun _ _ _ h => h) (Or.inl ⟨by rfl, ?hyct10⟩) (by assumption) ?restct10
                  case hyct10 => (intro w hSw; (try dsimp only at hSw); go_simp; try with_reducible rfl)
                  simp only [List.setIfInBounds_toArray, List.set_cons_zero, List.set_cons_succ]
                  refine take_at (i := 11) (d := 60) (v := ?vct11) rfl rfl (by kernel_rfl) (by kernel_rfl) (by kernel_rfl) (fun _ _ _ h => h) (Or.inl ⟨by rfl, ?hyct11⟩) (by assumption) ?restct11
                  case hyct11 => (intro w hSw; (try dsimp only at hSw); go_simp; try with_reducible rfl)
                  simp only [List.setIfInBounds_toArray, List.set_cons_zero, List.set_cons_succ]
                  refine take_at (i := 12) (d := 61) (v := ?vct12) rfl rfl (by kernel_rfl) (by kernel_rfl) (by kernel_rfl) (fun _ _ _ h => h) (Or.inl ⟨by rfl, ?hyct12⟩) (by assumption) ?restct12
                  case hyct12 => (intro w hSw; (try dsimp only at hSw); go_simp; try with_reducible rfl)
                  simp only [List.setIfInBounds_toArray, List.set_cons_zero, List.set_cons_succ]
                  refine take_at (i := 13) (d := 62) (v := ?vct13) rfl rfl (by kernel_rfl) (by kernel_rfl) (by kernel_rfl) (fun _ _ _ h => h) (Or.inl ⟨by rfl, ?hyct13⟩) (by assumption) ?restct13
                  case hyct13 => (intro w hSw; (try dsimp only at hSw); go_simp; try with_reducible rfl)
                  simp only [List.setIfInBounds_toArray, List.set_cons_zero, List.set_cons_succ]
                  refine take_at (i := 14) (d := 63) (v := ?vct14) rfl rfl (by kernel_rfl) (by kernel_rfl) (by kernel_rfl) (fun _ _ _ h => h) (Or.inl ⟨by rfl, ?hyct14⟩) (by assumption) ?restct14
                  case hyct14 => (intro w hSw; (try dsimp only at hSw); go_simp; try with_reducible rfl)
                  simp only [List.setIfInBounds_toArray, List.set_cons_zero, List.set_cons_succ]
                  refine take_at (i := 15) (d := 64) (v := ?vct15) rfl rfl (by kernel_rfl) (by kernel_rfl) (by kernel_rfl) (fun _ _ _ h => h) (Or.inl ⟨by rfl, ?hyct15⟩) (by assumption) ?restct15
                  case hyct15 => (intro w hSw; (try dsimp only at hSw); go_simp; try with_reducible rfl)
                  simp only [List.setIfInBounds_toArray, List.set_cons_zero, List.set_cons_succ]
                  refine take_at (i := 16) (d := 65) (v := ?vct16) rfl rfl (by kernel_rfl) (by kernel_rfl) (by kernel_rfl) (fun _ _ _ h => h) (Or.inl ⟨by rfl, ?hyct16⟩) (by assumption) ?restct16
                  case hyct16 => (intro w hSw; (try dsimp only at hSw); go_simp; try with_reducible rfl)
                  simp only [List.setIfInBounds_toArray, List.set_cons_zero, List.set_cons_succ]
                  refine take_at (i := 17) (d := 66) (v := ?vct17) rfl rfl (by kernel_rfl) (by kernel_rfl) (by kernel_rfl) (fun _ _ _ h => h) (Or.inl ⟨by rfl, ?hyct17⟩) (by assumption) ?restct17
                  case hyct17 => (intro w hSw; (try dsimp only at hSw); go_simp; try with_reducible rfl)
                  simp only [List.setIfInBounds_toArray, List.set_cons_zero, List.set_cons_succ]
                  refine take_at (i := 18) (d := 67) (v := ?vct18) rfl rfl (by kernel_rfl) (by kernel_rfl) (by kernel_rfl) (fun _ _ _ h => h) (Or.inl ⟨by rfl, ?hyct18⟩) (by assumption) ?restct18
                  case hyct18 => (intro w hSw; (try dsimp only at hSw); go_simp; try with_reducible rfl)
                  simp only [List.setIfInBounds_toArray, List.set_cons_zero, List.set_cons_succ]
                  refine take_at (i := 19) (d := 68) (v := ?vct19) rfl rfl (by kernel_rfl) (by kernel_rfl) (by kernel_rfl) (fun _ _ _ h => h) (Or.inl ⟨by rfl, ?hyct19⟩) (by assumption) ?restct19
                  case hyct19 => (intro w hSw; (try dsimp only at hSw); go_simp; try with_reducible rfl)
                  simp only [List.setIfInBounds_toArray, List.set_cons_zero, List.set_cons_succ]
                  refine take_at (i := 20) (d := 69) (v := ?vct20) rfl rfl (by kernel_rfl) (by kernel_rfl) (by kernel_rfl) (fun _ _ _ h => h) (Or.inl ⟨by rfl, ?hyct20⟩) (by assumption) ?restct20
                  case hyct20 => (intro w hSw; (try dsimp only at hSw); go_simp; try with_reducible rfl)
                  simp only [List.setIfInBounds_toArray, List.set_cons_zero, List.set_cons_succ]
                  refine take_at (i := 21) (d := 70) (v := ?vct21) rfl rfl (by kernel_rfl) (by kernel_rfl) (by kernel_rfl) (fun _ _ _ h => h) (Or.inl ⟨by rfl, ?hyct21⟩) (by assumption) ?restct21
                  case hyct21 => (intro w hSw; (try dsimp only at hSw); go_simp; try with_reducible rfl)
                  simp only [List.setIfInBounds_toArray, List.set_cons_zero, List.set_cons_succ]
                  refine wpAnyH_ready (rs := [22]) (by kernel_rfl) (by simp) ?_
                  refine AllReadyH.cons rfl (fun K hK => ?_) AllReadyH.nil
                  go_simp
                  go_at_call 197
                  refine (H3 _ (below_drew k2)).mono ?_
                  rintro e w3 ⟨rfl, hB3⟩
                  have hC1 : Below w2.heap.size w2 w3 := (below_drew (Below.refl w2.heap.size w2)).trans hB3
                  refine hK.out _ _ (F.out _ hC1) (fun hHeld2 => ?_)
                  clear hK hHeld
                  try simp only [Act.put, List.setIfInBounds_toArray, List.set_cons_zero, List.set_cons_succ]
                  refine take_at (i := 23) (d := 72) (v := ?vct23) rfl rfl (by kernel_rfl) (by kernel_rfl) (by kernel_rfl) (fun _ _ _ h => h) (Or.inl ⟨by rfl, ?hyct23⟩) (by assumption) ?restct23
                  case hyct23 => (intro w hSw; (try dsimp only at hSw); go_simp; try with_reducible rfl)
                  simp only [List.setIfInBounds_toArray, List.set_cons_zero, List.set_cons_succ]
                  refine take_at (i := 24) (d := 73) (v := ?vct24) rfl rfl (by kernel_rfl) (by kernel_rfl) (by kernel_rfl) (fun _ _ _ h => h) (Or.inl ⟨by rfl, ?hyct24⟩) (by assumption) ?restct24
                  case hyct24 => (intro w hSw; (try dsimp only at hSw); go_simp; try with_reducible rfl)
                  simp only [List.setIfInBounds_toArray, List.set_cons_zero, List.set_cons_succ]
                  refine wpAnyH_done (by kernel_rfl) ?_ _
                  have hm3 := hm2.kept (hC1.block _ hm2.lt.2)
                  have fz := hm3.frozen A
                  obtain ⟨⟨y0, y1⟩, -⟩ := cell_row2 ((hC1.block _ (Array.getElem?_eq_some_iff.1 ix2).1).trans ix2)
                  go_wp2
                  go_roundw
                  case rel =>
                    have k3 := k2.trans (hC1.mono k2.size)
                    have hAl : A < mk'.length := by have := HML.out; have := hml'.out; omega
                    refine ⟨pre ++ [⟨26, (A : Int)⟩], rest, mk'.set A fn, by rw [e1], HR.out, by rw [GO.out (by rw [HIN.out]), MK.out], by rw [List.length_set]; exact hml'.out, ?_, ?_, below_set k3 hm3.lt.1 _, ?_, ?_⟩
                    · intro x hx
                      rcases List.mem_or_eq_of_mem_set hx with h | h
                      · exact hmr.out x h
                      · omega
                    · have := hm3.set hAl (fn : Int)
                      exact this
                    · exact ⟨by have := Nat.le_trans bu2.size hC1.size; simpa [World.setCell] using this, fun k hk hne => (heap_setCell_other w3 ⟨gm, A, none⟩ k _ hne).trans ((hC1.block k (Nat.lt_of_lt_of_le hk bu2.size)).trans (bu2.block k hk hne))⟩
                    · rw [heap_setCell_other w3 ⟨gm, A, none⟩ w.heap.size _ (by simp only; omega)]
                      exact (hC1.block _ (Array.getElem?_eq_some_iff.1 bx2).1).trans bx2
                  case measure => simp [intOf]; omega
          · have h26' : ((op : Int) == 26) = false := by simp; omega
            go_wp2_with (first
              | (go_at_call 195; refine H1.mono ?_; clear H1; rintro e w2 ⟨rfl, hB2⟩; obtain ⟨hm2, k2, bu2, bx2, ix2⟩ := AFT.out _ hB2; obtain ⟨⟨z0, z1, z2, z3, z4, z5, z6, z7⟩, -⟩ := cell_row8 bx2; rw [HQ.out] at z5; obtain ⟨⟨y0, y1⟩, -⟩ := cell_row2 ix2))
            go_roundw
            case rel => exact ⟨pre ++ [⟨op, a⟩], rest, mk', by rw [e1], HR.out, by rw [GO.out (by unfold insP; rw [hnb]; simp [h26, hlast])]; simp [mkP, h26], hml'.out, hmr.out, hm2, k2, bu2, bx2⟩
            case measure => simp [intOf]; omega

end Go.Proofs.YtpjgdbeekmoedaaGreatDoor
