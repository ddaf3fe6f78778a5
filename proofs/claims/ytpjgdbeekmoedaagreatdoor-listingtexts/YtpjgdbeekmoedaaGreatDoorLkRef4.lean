/- The document's fn. -/
import Derived.Test.YtpjgdbeekmoedaaGreatDoorLkRef2
import Derived.Test.YtpjgdbeekmoedaaGreatDoorLkText
namespace Go.Proofs.YtpjgdbeekmoedaaGreatDoor
set_option linter.unusedVariables false
set_option linter.unusedSimpArgs false
open Go.RowKit

namespace Lk

variable {w : World}

theorem sz_lit (a : Array UInt8) : ByteArray.size ⟨a⟩ = a.size := rfl

theorem bs_lit (l : List UInt8) : (⟨l.toArray⟩ : ByteArray) = bs l := rfl

theorem lineIns (L : List UInt8) (ln : Int) (i : In) : L ++ Lib.itoa ln ++ [32] ++ insW i ++ [10] = L ++ lineP (insT ln i) := by
  unfold insW insT
  split
  · simp [lineP, said, more, Th.say, nm, wd]
  · split
    · simp [lineP, said, more, Th.say, nm, wd]
    · simp [lineP, said, more, Th.say, nm, wd]

theorem eq_head (f : Fm) : (⟨#[102, 110, 32]⟩ : ByteArray) ++ bs (quo f.name.data.toList) ++ (⟨#[32]⟩ : ByteArray) ++ bs (Lib.itoa f.params) ++ (⟨#[32]⟩ : ByteArray) ++ bs (Lib.itoa f.locals) ++ (⟨#[10]⟩ : ByteArray) = bs (lineP (headT f)) := by
  show bs [102, 110, 32] ++ bs (quo f.name.data.toList) ++ bs [32] ++ bs (Lib.itoa f.params) ++ bs [32] ++ bs (Lib.itoa f.locals) ++ bs [10] = _
  rw [bs_app, bs_app, bs_app, bs_app, bs_app, bs_app]
  congr 1
  simp [lineP, said, more, Th.say, nm, wd, headT, tx]

theorem sz_head (f : Fm) (hq : (quo f.name.data.toList).length ≤ 1048576) (h1 : (Lib.itoa f.params).length ≤ 21) (h2 : (Lib.itoa f.locals).length ≤ 21) : ¬ (9223372036854775807 < 3 + (bs (quo f.name.data.toList)).size) ∧ ¬ (9223372036854775807 < 3 + (bs (quo f.name.data.toList)).size + 1) ∧ ¬ (9223372036854775807 < 3 + (bs (quo f.name.data.toList)).size + 1 + (bs (Lib.itoa f.params)).size) ∧ ¬ (9223372036854775807 < 3 + (bs (quo f.name.data.toList)).size + 1 + (bs (Lib.itoa f.params)).size + 1) ∧ ¬ (9223372036854775807 < 3 + (bs (quo f.name.data.toList)).size + 1 + (bs (Lib.itoa f.params)).size + 1 + (bs (Lib.itoa f.locals)).size) ∧ ¬ (9223372036854775807 < 3 + (bs (quo f.name.data.toList)).size + 1 + (bs (Lib.itoa f.params)).size + 1 + (bs (Lib.itoa f.locals)).size + 1) := by
  simp only [bs_size]
  omega

theorem eq_up (L : List UInt8) (n : Int) : bs L ++ (⟨#[117, 112, 32]⟩ : ByteArray) ++ bs (Lib.itoa n) ++ (⟨#[10]⟩ : ByteArray) = bs (L ++ lineP (capT ⟨true, n⟩)) := by
  show bs L ++ bs [117, 112, 32] ++ bs (Lib.itoa n) ++ bs [10] = _
  rw [bs_app, bs_app, bs_app]
  congr 1
  simp [lineP, said, more, Th.say, nm, wd, capT]

theorem sz_up (L : List UInt8) (n : Int) (hl : L.length ≤ 67108864) (h1 : (Lib.itoa n).length ≤ 21) : ¬ (9223372036854775807 < (bs L).size + 3) ∧ ¬ (9223372036854775807 < (bs L).size + 3 + (bs (Lib.itoa n)).size) ∧ ¬ (9223372036854775807 < (bs L).size + 3 + (bs (Lib.itoa n)).size + 1) := by
  simp only [bs_size]
  omega

theorem eq_cap (L : List UInt8) (n : Int) : bs L ++ (⟨#[99, 97, 112, 32]⟩ : ByteArray) ++ bs (Lib.itoa n) ++ (⟨#[10]⟩ : ByteArray) = bs (L ++ lineP (capT ⟨false, n⟩)) := by
  show bs L ++ bs [99, 97, 112, 32] ++ bs (Lib.itoa n) ++ bs [10] = _
  rw [bs_app, bs_app, bs_app]
  congr 1
  simp [lineP, said, more, Th.say, nm, wd, capT]

theorem sz_cap (L : List UInt8) (n : Int) (hl : L.length ≤ 67108864) (h1 : (Lib.itoa n).length ≤ 21) : ¬ (9223372036854775807 < (bs L).size + 4) ∧ ¬ (9223372036854775807 < (bs L).size + 4 + (bs (Lib.itoa n)).size) ∧ ¬ (9223372036854775807 < (bs L).size + 4 + (bs (Lib.itoa n)).size + 1) := by
  simp only [bs_size]
  omega

theorem eq_int (L : List UInt8) (n : Int) : bs L ++ (⟨#[105, 110, 116, 32]⟩ : ByteArray) ++ bs (Lib.itoa n) ++ (⟨#[10]⟩ : ByteArray) = bs (L ++ lineP [wd [105, 110, 116], lo n]) := by
  show bs L ++ bs [105, 110, 116, 32] ++ bs (Lib.itoa n) ++ bs [10] = _
  rw [bs_app, bs_app, bs_app]
  congr 1
  simp [lineP, said, more, Th.say, nm, wd, lo]

theorem sz_int (L : List UInt8) (n : Int) (hl : L.length ≤ 67108864) (h1 : (Lib.itoa n).length ≤ 21) : ¬ (9223372036854775807 < (bs L).size + 4) ∧ ¬ (9223372036854775807 < (bs L).size + 4 + (bs (Lib.itoa n)).size) ∧ ¬ (9223372036854775807 < (bs L).size + 4 + (bs (Lib.itoa n)).size + 1) := by
  simp only [bs_size]
  omega

theorem eq_text (L s : List UInt8) : bs L ++ (⟨#[116, 101, 120, 116, 32]⟩ : ByteArray) ++ bs (quo s) ++ (⟨#[10]⟩ : ByteArray) = bs (L ++ lineP [wd [116, 101, 120, 116], tx s]) := by
  show bs L ++ bs [116, 101, 120, 116, 32] ++ bs (quo s) ++ bs [10] = _
  rw [bs_app, bs_app, bs_app]
  congr 1
  simp [lineP, said, more, Th.say, nm, wd, tx]

theorem sz_text (L s : List UInt8) (hl : L.length ≤ 67108864) (hq : (quo s).length ≤ 1048576) : ¬ (9223372036854775807 < (bs L).size + 5) ∧ ¬ (9223372036854775807 < (bs L).size + 5 + (bs (quo s)).size) ∧ ¬ (9223372036854775807 < (bs L).size + 5 + (bs (quo s)).size + 1) := by
  simp only [bs_size]
  omega

theorem eq_ins (L : List UInt8) (ln : Int) (i : In) : bs L ++ bs (Lib.itoa ln) ++ (⟨#[32]⟩ : ByteArray) ++ bs (insW i) ++ (⟨#[10]⟩ : ByteArray) = bs (L ++ lineP (insT ln i)) := by
  show bs L ++ bs (Lib.itoa ln) ++ bs [32] ++ bs (insW i) ++ bs [10] = _
  rw [bs_app, bs_app, bs_app, bs_app]
  rw [← lineIns]

theorem sz_ins (L : List UInt8) (ln : Int) (i : In) (hl : L.length ≤ 67108864) (h1 : (Lib.itoa ln).length ≤ 21) (hq : (insW i).length ≤ 1048576) : ¬ (9223372036854775807 < (bs L).size + (bs (Lib.itoa ln)).size) ∧ ¬ (9223372036854775807 < (bs L).size + (bs (Lib.itoa ln)).size + 1) ∧ ¬ (9223372036854775807 < (bs L).size + (bs (Lib.itoa ln)).size + 1 + (bs (insW i)).size) ∧ ¬ (9223372036854775807 < (bs L).size + (bs (Lib.itoa ln)).size + 1 + (bs (insW i)).size + 1) := by
  simp only [bs_size]
  omega

theorem eq_han (L : List UInt8) (fr too at_ deep : Int) : bs L ++ (⟨#[99, 97, 116, 99, 104, 32]⟩ : ByteArray) ++ bs (Lib.itoa fr) ++ (⟨#[32]⟩ : ByteArray) ++ bs (Lib.itoa too) ++ (⟨#[32]⟩ : ByteArray) ++ bs (Lib.itoa at_) ++ (⟨#[32]⟩ : ByteArray) ++ bs (Lib.itoa deep) ++ (⟨#[10]⟩ : ByteArray) = bs (L ++ lineP (hanT ⟨fr, too, at_, deep⟩)) := by
  show bs L ++ bs [99, 97, 116, 99, 104, 32] ++ bs (Lib.itoa fr) ++ bs [32] ++ bs (Lib.itoa too) ++ bs [32] ++ bs (Lib.itoa at_) ++ bs [32] ++ bs (Lib.itoa deep) ++ bs [10] = _
  rw [bs_app, bs_app, bs_app, bs_app, bs_app, bs_app, bs_app, bs_app, bs_app]
  congr 1
  simp [lineP, said, more, Th.say, nm, wd, hanT]

theorem sz_han (L : List UInt8) (fr too at_ deep : Int) (hl : L.length ≤ 67108864) (h1 : (Lib.itoa fr).length ≤ 21) (h2 : (Lib.itoa too).length ≤ 21) (h3 : (Lib.itoa at_).length ≤ 21) (h4 : (Lib.itoa deep).length ≤ 21) : ¬ (9223372036854775807 < (bs L).size + 6) ∧ ¬ (9223372036854775807 < (bs L).size + 6 + (bs (Lib.itoa fr)).size) ∧ ¬ (9223372036854775807 < (bs L).size + 6 + (bs (Lib.itoa fr)).size + 1) ∧ ¬ (9223372036854775807 < (bs L).size + 6 + (bs (Lib.itoa fr)).size + 1 + (bs (Lib.itoa too)).size) ∧ ¬ (9223372036854775807 < (bs L).size + 6 + (bs (Lib.itoa fr)).size + 1 + (bs (Lib.itoa too)).size + 1) ∧ ¬ (9223372036854775807 < (bs L).size + 6 + (bs (Lib.itoa fr)).size + 1 + (bs (Lib.itoa too)).size + 1 + (bs (Lib.itoa at_)).size) ∧ ¬ (9223372036854775807 < (bs L).size + 6 + (bs (Lib.itoa fr)).size + 1 + (bs (Lib.itoa too)).size + 1 + (bs (Lib.itoa at_)).size + 1) ∧ ¬ (9223372036854775807 < (bs L).size + 6 + (bs (Lib.itoa fr)).size + 1 + (bs (Lib.itoa too)).size + 1 + (bs (Lib.itoa at_)).size + 1 + (bs (Lib.itoa deep)).size) ∧ ¬ (9223372036854775807 < (bs L).size + 6 + (bs (Lib.itoa fr)).size + 1 + (bs (Lib.itoa too)).size + 1 + (bs (Lib.itoa at_)).size + 1 + (bs (Lib.itoa deep)).size + 1) := by
  simp only [bs_size]
  omega

end Lk

end Go.Proofs.YtpjgdbeekmoedaaGreatDoor

namespace Go.Proofs.YtpjgdbeekmoedaaGreatDoor
set_option linter.unusedVariables false
set_option linter.unusedSimpArgs false
open Go.RowKit

namespace Lk

variable {w : World}

set_option maxRecDepth 20000 in
set_option maxHeartbeats 8000000 in
theorem rfn_in (f : Fm) (s : Fs) (hv : FnAt w f s) (hok : FnOk f) (hpos : ∀ i ∈ f.code, 0 < i.op ∧ (i.op = 14 → 0 < i.a)) (hname : f.name.size ≤ 4096) (htx : ∀ c ∈ f.consts, c.s.size ≤ 4096) (hroom : tot (fnT f) ≤ 67108864) :
    Calls Tryz.prog 93 #[fnA f s] w fun e w' => e = .returned (.string (bs (fnP f))) ∧ Below w.heap.size w w' := by
  obtain ⟨qc, cc, qk, ck, qi, ci, ql, cl, qh, ch⟩ := s
  have hfits := hok.fits
  obtain ⟨n1, n2, n3, n4⟩ := hok.lens
  have HV : Hid (FnAt w f ⟨qc, cc, qk, ck, qi, ci, ql, cl, qh, ch⟩) := hv
  have HOK : Hid _ := hok
  have HPOS : Hid _ := hpos
  have HTX : Hid _ := htx
  have HFT : Hid _ := hfits
  have HROOM : Hid (([] : List UInt8).length + tot (fnT f) ≤ 67108864) := by show _ ≤ _; simpa using hroom
  have hB1 := below1 w (.cells #[.string f.name, .int .i64 f.params, .int .i64 f.locals, .slice qc f.caps.length cc, .slice qk f.consts.length ck, .slice qi f.code.length ci, .slice ql f.lines.length cl, .slice qh f.hs.length ch] 68)
  have hnew := heap_alloc_new w (.cells #[.string f.name, .int .i64 f.params, .int .i64 f.locals, .slice qc f.caps.length cc, .slice qk f.consts.length ck, .slice qi f.code.length ci, .slice ql f.lines.length cl, .slice qh f.hs.length ch] 68)
  have hnl : w.heap.size < (w.alloc (.cells #[.string f.name, .int .i64 f.params, .int .i64 f.locals, .slice qc f.caps.length cc, .slice qk f.consts.length ck, .slice qi f.code.length ci, .slice ql f.lines.length cl, .slice qh f.hs.length ch] 68)).heap.size := by simp
  have HFh : Hid _ := fun (W : World) (hW : Below (w.alloc (.cells #[.string f.name, .int .i64 f.params, .int .i64 f.locals, .slice qc f.caps.length cc, .slice qk f.consts.length ck, .slice qi f.code.length ci, .slice ql f.lines.length cl, .slice qh f.hs.length ch] 68)).heap.size (w.alloc (.cells #[.string f.name, .int .i64 f.params, .int .i64 f.locals, .slice qc f.caps.length cc, .slice qk f.consts.length ck, .slice qi f.code.length ci, .slice ql f.lines.length cl, .slice qh f.hs.length ch] 68)) W) => (cell_row8 ((hW.block _ hnl).trans hnew)).1
  have HF := fun (W : World) (hW : Below (w.alloc (.cells #[.string f.name, .int .i64 f.params, .int .i64 f.locals, .slice qc f.caps.length cc, .slice qk f.consts.length ck, .slice qi f.code.length ci, .slice ql f.lines.length cl, .slice qh f.hs.length ch] 68)).heap.size (w.alloc (.cells #[.string f.name, .int .i64 f.params, .int .i64 f.locals, .slice qc f.caps.length cc, .slice qk f.consts.length ck, .slice qi f.code.length ci, .slice ql f.lines.length cl, .slice qh f.hs.length ch] 68)) W) => (cell_row8 ((hW.block _ hnl).trans hnew)).1
  have HBW : Hid (∀ W, Below (w.alloc (.cells #[.string f.name, .int .i64 f.params, .int .i64 f.locals, .slice qc f.caps.length cc, .slice qk f.consts.length ck, .slice qi f.code.length ci, .slice ql f.lines.length cl, .slice qh f.hs.length ch] 68)).heap.size (w.alloc (.cells #[.string f.name, .int .i64 f.params, .int .i64 f.locals, .slice qc f.caps.length cc, .slice qk f.consts.length ck, .slice qi f.code.length ci, .slice ql f.lines.length cl, .slice qh f.hs.length ch] 68)) W → Below w.heap.size w W) := fun W hW => hB1.trans (hW.mono hB1.size)
  have HQ := fun (W : World) => Lq.rquoted_in f.name.data.toList (by simp; omega) W
  simp only [Lq.quo_eq] at HQ
  rw [bs_of] at HQ
  have HDp := fun (W : World) => rdigits_in f.params hok.params W
  have HDl := fun (W : World) => rdigits_in f.locals hok.locals W
  have hz := sz_head f (by have := quo_len f.name.data.toList; simp at this ⊢; omega) (Lib.itoa_length_le _ hok.params.1 hok.params.2) (Lib.itoa_length_le _ hok.locals.1 hok.locals.2)
  obtain ⟨z2, z3, z4, z5, z6, z7⟩ := hz
  have zq : (bs (quo f.name.data.toList)).size ≤ 1048576 := by rw [bs_size]; have := quo_len f.name.data.toList; simp at this ⊢; omega
  have zp : (bs (Lib.itoa f.params)).size ≤ 21 := by rw [bs_size]; exact Lib.itoa_length_le _ hok.params.1 hok.params.2
  have zl : (bs (Lib.itoa f.locals)).size ≤ 21 := by rw [bs_size]; exact Lib.itoa_length_le _ hok.locals.1 hok.locals.2
  have HS := fun (W : World) (hW : Below (w.alloc (.cells #[.string f.name, .int .i64 f.params, .int .i64 f.locals, .slice qc f.caps.length cc, .slice qk f.consts.length ck, .slice qi f.code.length ci, .slice ql f.lines.length cl, .slice qh f.hs.length ch] 68)).heap.size (w.alloc (.cells #[.string f.name, .int .i64 f.params, .int .i64 f.locals, .slice qc f.caps.length cc, .slice qk f.consts.length ck, .slice qi f.code.length ci, .slice ql f.lines.length cl, .slice qh f.hs.length ch] 68)) W) => (show W.cell? ⟨w.heap.size, 0, none⟩ = some (.string f.name) ∧ W.cell? ⟨w.heap.size, 1, none⟩ = some (.int .i64 f.params) ∧ W.cell? ⟨w.heap.size, 2, none⟩ = some (.int .i64 f.locals) from ⟨(HF W hW).1, (HF W hW).2.1, (HF W hW).2.2.1⟩)
  have hE := eq_head f
  have HE : Hid _ := hE
  clear hE hok hpos htx hfits hroom hv hnew HF hname
  unfold fnA
  simp only
  go_enter Tryz.func93, Tryz.ntmps93
  go_wp2
  go_region_held3 (fun W => W.cell? ⟨w.heap.size, 0, none⟩ = some (.string f.name) ∧ W.cell? ⟨w.heap.size, 1, none⟩ = some (.int .i64 f.params) ∧ W.cell? ⟨w.heap.size, 2, none⟩ = some (.int .i64 f.locals)) (first | with_reducible exact HS _ (below_drew (Below.refl _ _)) | with_reducible exact HS _ hC3 | with_reducible exact HS _ hC2 | with_reducible exact HS _ hC1 | go_keep) (first
    | (go_at_call 158; (with_reducible refine (HQ _).mono ?_); rintro e wz1 ⟨rfl, hBz1⟩; have hC1 : Below (w.alloc (.cells #[.string f.name, .int .i64 f.params, .int .i64 f.locals, .slice qc f.caps.length cc, .slice qk f.consts.length ck, .slice qi f.code.length ci, .slice ql f.lines.length cl, .slice qh f.hs.length ch] 68)).heap.size (w.alloc (.cells #[.string f.name, .int .i64 f.params, .int .i64 f.locals, .slice qc f.caps.length cc, .slice qk f.consts.length ck, .slice qi f.code.length ci, .slice ql f.lines.length cl, .slice qh f.hs.length ch] 68)) wz1 := (below_drew (Below.refl _ _)).trans hBz1)
    | (go_at_call 159; (with_reducible refine (HDp wz1).mono ?_); rintro e wz2 ⟨rfl, hBz2⟩; have hC2 := hC1.trans (hBz2.mono hC1.size))
    | (go_at_call 159; (with_reducible refine (HDl wz2).mono ?_); rintro e wz3 ⟨rfl, hBz3⟩; have hC3 := hC2.trans (hBz3.mono hC2.size)))
  rw [HE.out]
  have hBs := hC3
  have h0 : Hid (lineP (headT f) = ((fnT f).take (1 + 0)).flatMap lineP) := by show _ = _; simp [fnT]
  clear z2 z3 z4 z5 z6 z7 HQ HDp HDl HS hBz1 hBz2 hBz3 hC1 hC2 hC3 hB1 hnl
  obtain ⟨WZ, hWZ⟩ : ∃ WZ, (w.alloc (.cells #[.string f.name, .int .i64 f.params, .int .i64 f.locals, .slice qc f.caps.length cc, .slice qk f.consts.length ck, .slice qi f.code.length ci, .slice ql f.lines.length cl, .slice qh f.hs.length ch] 68)) = WZ := ⟨_, rfl⟩
  rw [hWZ] at hBs HFh HBW
  clear hWZ
  go_wp2
  go_loopw [3, 4] (fun sv k wr => ∃ i : Nat, sv = .string (bs (((fnT f).take (1 + i)).flatMap lineP)) ∧ k = .int .i64 i ∧ i ≤ f.caps.length ∧ Below WZ.heap.size WZ wr) (fun _ k _ => f.caps.length - (intOf k).toNat)
  case atStart => exact ⟨0, by rw [h0.out], rfl, by omega, hBs⟩
  case round =>
    obtain ⟨i, rfl, rfl, hi, hB⟩ := hrel
    rename World => wo
    clear hBs
    obtain ⟨x0, x1, x2, x3, x4, x5, x6, x7⟩ := HFh.out _ hB
    by_cases hin : i < f.caps.length
    · have hin' : (i : Int) < (f.caps.length : Int) := by omega
      obtain ⟨x, hx⟩ : ∃ x, f.caps[i]? = some x := ⟨f.caps[i], by simp⟩
      obtain ⟨bq, oq, hq, e0, e1⟩ := HV.out.caps.lookC (HBW.out _ hB) hx
      have hat : (fnT f)[1 + i]? = some (capT x) := by
        have := mid (A := [headT f]) (B := f.caps.map capT) (C := f.consts.map conT ++ (insL f ++ f.hs.map hanT)) (k := 1) (i := i) (by simp [insL] <;> omega) (by simp [insL] <;> omega)
        rw [List.getElem?_map, hx] at this
        simpa [fnT, insL] using this
      have hrm := room (l := []) HFT.out HROOM.out hat
      have hst := step1 (l := []) hat
      simp only [List.nil_append] at hrm hst
      rw [show 1 + i + 1 = 1 + (i + 1) by omega] at hst
      generalize hLL : ((fnT f).take (1 + i)).flatMap lineP = L at *
      have hLn : L.length ≤ 67108864 := by omega
      have HNX : Hid _ := hst
      clear hst hrm hat hLL
      simp only at hq
      have hn := HOK.out.caps x (List.mem_of_getElem? hx)
      obtain ⟨up, n⟩ := x
      simp only at e0 e1 hn
      have HD := fun (W : World) => rdigits_in n hn W
      have lHD := Lib.itoa_length_le n hn.1 hn.2
      have zHD : (bs (Lib.itoa n)).size ≤ 21 := by rw [bs_size]; exact lHD
      subst hq
      clear hx
      cases up with
      | true =>
        obtain ⟨z2, z3, z4⟩ := sz_up L n hLn lHD
        go_wp2_with (first
          | (go_at_call 159; (with_reducible refine (HD _).mono ?_); rintro e wz ⟨rfl, hBz⟩; have hBn := hB.trans (hBz.mono hB.size)))
        go_roundw
        case rel => exact ⟨i + 1, by rw [HNX.out]; exact congrArg Value.string (eq_up L n), by simp, by omega, hBn⟩
        case measure => simp [intOf]; omega
      | false =>
        obtain ⟨z2, z3, z4⟩ := sz_cap L n hLn lHD
        go_wp2_with (first
          | (go_at_call 159; (with_reducible refine (HD _).mono ?_); rintro e wz ⟨rfl, hBz⟩; have hBn := hB.trans (hBz.mono hB.size)))
        go_roundw
        case rel => exact ⟨i + 1, by rw [HNX.out]; exact congrArg Value.string (eq_cap L n), by simp, by omega, hBn⟩
        case measure => simp [intOf]; omega
    · have hin' : ¬ ((i : Int) < (f.caps.length : Int)) := by omega
      obtain rfl : i = f.caps.length := by omega
      have hBs := hB
      go_wp2
      go_loopw [3, 5] (fun sv k wr => ∃ i : Nat, sv = .string (bs (((fnT f).take (1 + f.caps.length + i)).flatMap lineP)) ∧ k = .int .i64 i ∧ i ≤ f.consts.length ∧ Below WZ.heap.size WZ wr) (fun _ k _ => f.consts.length - (intOf k).toNat)
      case atStart => exact ⟨0, rfl, rfl, by omega, hBs⟩
      case round =>
        obtain ⟨i, rfl, rfl, hi, hB⟩ := hrel
        rename World => wo
        clear hBs
        obtain ⟨x0, x1, x2, x3, x4, x5, x6, x7⟩ := HFh.out _ hB
        by_cases hin : i < f.consts.length
        · have hin' : (i : Int) < (f.consts.length : Int) := by omega
          obtain ⟨x, hx⟩ : ∃ x, f.consts[i]? = some x := ⟨f.consts[i], by simp⟩
          obtain ⟨bq, oq, hq, e0, e1, e2⟩ := HV.out.consts.lookK (HBW.out _ hB) hx
          have hat : (fnT f)[1 + f.caps.length + i]? = some (conT x) := by
            have := mid (A := headT f :: f.caps.map capT) (B := f.consts.map conT) (C := insL f ++ f.hs.map hanT) (k := 1 + f.caps.length) (i := i) (by simp [insL] <;> omega) (by simp [insL] <;> omega)
            rw [List.getElem?_map, hx] at this
            simpa [fnT, insL] using this
          have hrm := room (l := []) HFT.out HROOM.out hat
          have hst := step1 (l := []) hat
          simp only [List.nil_append] at hrm hst
          rw [show 1 + f.caps.length + i + 1 = 1 + f.caps.length + (i + 1) by omega] at hst
          generalize hLL : ((fnT f).take (1 + f.caps.length + i)).flatMap lineP = L at *
          have hLn : L.length ≤ 67108864 := by omega
          have HNX : Hid _ := hst
          clear hst hrm hat hLL
          simp only at hq
          have hn := (HOK.out.consts x (List.mem_of_getElem? hx)).2
          have hk256 := (HOK.out.consts x (List.mem_of_getElem? hx)).1
          have htxx := HTX.out x (List.mem_of_getElem? hx)
          obtain ⟨k, n, sB⟩ := x
          simp only at e0 e1 e2 hn hk256 htxx
          subst hq
          clear hx
          by_cases hk : k = 2
          · subst hk
            simp only [show ((2 : Nat) : Int) = 2 from rfl] at e0
            have hct : conT ⟨2, n, sB⟩ = [wd [105, 110, 116], lo n] := rfl
            rw [hct] at HNX
            clear hct
            have HD := fun (W : World) => Ld.rDigits_in n hn.1 hn.2 W
            have lHD := Lib.itoa_length_le n hn.1 hn.2
            have zHD : (bs (Lib.itoa n)).size ≤ 21 := by rw [bs_size]; exact lHD
            simp only [bs_lit] at HD
            obtain ⟨z2, z3, z4⟩ := sz_int L n hLn lHD
            go_wp2_with (first
              | (go_at_call 160; (with_reducible refine (HD _).mono ?_); rintro e wz ⟨rfl, hBz⟩; have hBn := hB.trans (hBz.mono hB.size)))
            go_roundw
            case rel => exact ⟨i + 1, by rw [HNX.out]; exact congrArg Value.string (eq_int L n), by simp, by omega, hBn⟩
            case measure => simp [intOf]; omega
          · have hk' : ((k : Int) == 2) = false := by rw [beq_eq_false_iff_ne]; omega
            have hct : conT ⟨k, n, sB⟩ = [wd [116, 101, 120, 116], tx sB.data.toList] := by unfold conT; rw [if_neg hk]
            rw [hct] at HNX
            clear hct hk
            have hql := quo_len sB.data.toList
            have hsl : sB.data.toList.length = sB.size := by simp
            have HQ := fun (W : World) => Lq.rquoted_in sB.data.toList (by omega) W
            simp only [Lq.quo_eq] at HQ
            rw [bs_of] at HQ
            have zq : (bs (quo sB.data.toList)).size ≤ 1048576 := by rw [bs_size]; omega
            obtain ⟨z2, z3, z4⟩ := sz_text L sB.data.toList hLn (by omega)
            go_wp2_with (first
              | (go_at_call 158; (with_reducible refine (HQ _).mono ?_); rintro e wz ⟨rfl, hBz⟩; have hBn := hB.trans (hBz.mono hB.size)))
            go_roundw
            case rel => exact ⟨i + 1, by rw [HNX.out]; exact congrArg Value.string (eq_text L sB.data.toList), by simp, by omega, hBn⟩
            case measure => simp [intOf]; omega
        · have hin' : ¬ ((i : Int) < (f.consts.length : Int)) := by omega
          obtain rfl : i = f.consts.length := by omega
          have hBs := hB
          go_wp2
          go_loopw [3, 6] (fun sv k wr => ∃ i : Nat, sv = .string (bs (((fnT f).take (1 + f.caps.length + f.consts.length + i)).flatMap lineP)) ∧ k = .int .i64 i ∧ i ≤ f.code.length ∧ Below WZ.heap.size WZ wr) (fun _ k _ => f.code.length - (intOf k).toNat)
          case atStart => exact ⟨0, rfl, rfl, by omega, hBs⟩
          case round =>
            obtain ⟨i, rfl, rfl, hi, hB⟩ := hrel
            rename World => wo
            clear hBs
            obtain ⟨x0, x1, x2, x3, x4, x5, x6, x7⟩ := HFh.out _ hB
            by_cases hin : i < f.code.length
            · have hin' : (i : Int) < (f.code.length : Int) := by omega
              obtain ⟨x, hx⟩ : ∃ x, f.code[i]? = some x := ⟨f.code[i], by simp⟩
              have hll := HOK.out.lines
              obtain ⟨ln, hln⟩ : ∃ ln, f.lines[i]? = some ln := ⟨f.lines[i]'(by omega), by simp⟩
              have hio := HOK.out.code i ln x hln hx
              have hinl : (i : Int) < (f.lines.length : Int) := by omega
              obtain ⟨bl, ol, hql, g0⟩ := HV.out.lines.lookL (HBW.out _ hB) hln
              obtain ⟨bq, oq, hq, e0, e1⟩ := HV.out.code.look2 (HBW.out _ hB) hx
              have hat : (fnT f)[1 + f.caps.length + f.consts.length + i]? = some (insT ln x) := by
                have := mid (A := headT f :: (f.caps.map capT ++ f.consts.map conT)) (B := insL f) (C := f.hs.map hanT) (k := 1 + f.caps.length + f.consts.length) (i := i) (by simp [insL] <;> omega) (by simp [insL] <;> omega)
                have h2 : (insL f)[i]? = some (insT ln x) := by
                  unfold insL
                  rw [List.getElem?_map, (List.getElem?_zip_eq_some (z := (ln, x))).2 ⟨hln, hx⟩]
                  rfl
                rw [h2] at this
                simpa [fnT, insL] using this
              have hrm := room (l := []) HFT.out HROOM.out hat
              have hst := step1 (l := []) hat
              simp only [List.nil_append] at hrm hst
              rw [show 1 + f.caps.length + f.consts.length + i + 1 = 1 + f.caps.length + f.consts.length + (i + 1) by omega] at hst
              generalize hLL : ((fnT f).take (1 + f.caps.length + f.consts.length + i)).flatMap lineP = L at *
              have hLn : L.length ≤ 67108864 := by omega
              have HNX : Hid _ := hst
              clear hst hrm hat hLL
              simp only at hq hql
              have hps := HPOS.out x (List.mem_of_getElem? hx)
              have HFC := HV.out.code
              have HFL := HV.out.lines
              simp only at HFC HFL
              have HI := fun (W : World) => rins_in ln x hps.1 hio hps.2 W
              have HEQ : Hid _ := eq_ins L ln x
              have lI : (insW x).length ≤ 40 := by
                unfold insW
                have h1 := opsL_len x.op
                have h2 := binsL_len x.a.toNat
                have h3 := Lib.itoa_length_le x.a hio.a.1 hio.a.2
                split
                · simp only [List.length_append, List.length_cons]; omega
                · split
                  · simp only [List.length_append, List.length_cons]; omega
                  · omega
              have zI : (bs (insW x)).size ≤ 40 := by rw [bs_size]; exact lI
              have HD := fun (W : World) => rdigits_in ln hio.ln W
              have lHD := Lib.itoa_length_le ln hio.ln.1 hio.ln.2
              have zHD : (bs (Lib.itoa ln)).size ≤ 21 := by rw [bs_size]; exact lHD
              obtain ⟨z2, z3, z4, z5⟩ := sz_ins L ln x hLn lHD (by omega)
              obtain ⟨op, a⟩ := x
              simp only at e0 e1 HI
              subst hq
              subst hql
              have HS := fun (W : World) (hW : Below WZ.heap.size WZ W) => (show W.cell? ⟨w.heap.size, 6, none⟩ = some (.slice (some ⟨bl, ol, none⟩) f.lines.length cl) ∧ W.cell? ⟨bl, ol + i, none⟩ = some (.int .i64 ln) ∧ W.cell? ⟨w.heap.size, 5, none⟩ = some (.slice (some ⟨bq, oq, none⟩) f.code.length ci) ∧ W.cell? ⟨bq, oq + i * 2, none⟩ = some (.int .u8 op) ∧ W.cell? ⟨bq, oq + i * 2 + 1, none⟩ = some (.int .i64 a) from by
                obtain ⟨y0, y1, y2, y3, y4, y5, y6, y7⟩ := HFh.out _ hW
                obtain ⟨b9, o9, e9, h9⟩ := HFL.lookL (HBW.out _ hW) hln
                obtain ⟨b8, o8, e8, h8, h8'⟩ := HFC.look2 (HBW.out _ hW) hx
                simp only [Option.some.injEq, Addr.mk.injEq] at e9 e8
                obtain ⟨rfl, rfl, _⟩ := e9
                obtain ⟨rfl, rfl, _⟩ := e8
                exact ⟨y6, h9, y5, h8, h8'⟩)
              have hB0 := hB
              clear hx hln hio hps HFC HFL hll
              generalize insW ⟨op, a⟩ = sI at *
              go_wp2
              go_region_held3 (fun W => W.cell? ⟨w.heap.size, 6, none⟩ = some (.slice (some ⟨bl, ol, none⟩) f.lines.length cl) ∧ W.cell? ⟨bl, ol + i, none⟩ = some (.int .i64 ln) ∧ W.cell? ⟨w.heap.size, 5, none⟩ = some (.slice (some ⟨bq, oq, none⟩) f.code.length ci) ∧ W.cell? ⟨bq, oq + i * 2, none⟩ = some (.int .u8 op) ∧ W.cell? ⟨bq, oq + i * 2 + 1, none⟩ = some (.int .i64 a)) (first | with_reducible exact HS _ (below_drew hB0) | with_reducible exact HS _ hC2 | with_reducible exact HS _ hC1 | go_keep) (first
                | (go_at_call 159; (with_reducible refine (HD _).mono ?_); rintro e wz1 ⟨rfl, hBz1⟩; have hC1 : Below WZ.heap.size WZ wz1 := (below_drew hB0).trans (hBz1.mono hB0.size))
                | (go_at_call 161; (with_reducible refine (HI _).mono ?_); rintro e wz2 ⟨rfl, hBz2⟩; have hC2 : Below WZ.heap.size WZ wz2 := hC1.trans (hBz2.mono hC1.size)))
              have hBn := hC2
              go_wp2
              go_roundw
              case rel => exact ⟨i + 1, by rw [HNX.out]; exact congrArg Value.string (HEQ.out), by simp, by omega, hBn⟩
              case measure => simp [intOf]; omega
            · have hin' : ¬ ((i : Int) < (f.code.length : Int)) := by omega
              obtain rfl : i = f.code.length := by omega
              have hBs := hB
              go_wp2
              go_loopw [3, 7] (fun sv k wr => ∃ i : Nat, sv = .string (bs (((fnT f).take (1 + f.caps.length + f.consts.length + f.code.length + i)).flatMap lineP)) ∧ k = .int .i64 i ∧ i ≤ f.hs.length ∧ Below WZ.heap.size WZ wr) (fun _ k _ => f.hs.length - (intOf k).toNat)
              case atStart => exact ⟨0, rfl, rfl, by omega, hBs⟩
              case round =>
                obtain ⟨i, rfl, rfl, hi, hB⟩ := hrel
                rename World => wo
                clear hBs
                obtain ⟨x0, x1, x2, x3, x4, x5, x6, x7⟩ := HFh.out _ hB
                by_cases hin : i < f.hs.length
                · have hin' : (i : Int) < (f.hs.length : Int) := by omega
                  obtain ⟨x, hx⟩ : ∃ x, f.hs[i]? = some x := ⟨f.hs[i], by simp⟩
                  have hll := HOK.out.lines
                  obtain ⟨bq, oq, hq, e0, e1, e2, e3⟩ := HV.out.hs.lookH (HBW.out _ hB) hx
                  have hat : (fnT f)[1 + f.caps.length + f.consts.length + f.code.length + i]? = some (hanT x) := by
                    have := mid (A := headT f :: (f.caps.map capT ++ (f.consts.map conT ++ insL f))) (B := f.hs.map hanT) (C := []) (k := 1 + f.caps.length + f.consts.length + f.code.length) (i := i) (by simp [insL] <;> omega) (by simp [insL] <;> omega)
                    rw [List.getElem?_map, hx] at this
                    simpa [fnT, insL] using this
                  have hrm := room (l := []) HFT.out HROOM.out hat
                  have hst := step1 (l := []) hat
                  simp only [List.nil_append] at hrm hst
                  rw [show 1 + f.caps.length + f.consts.length + f.code.length + i + 1 = 1 + f.caps.length + f.consts.length + f.code.length + (i + 1) by omega] at hst
                  generalize hLL : ((fnT f).take (1 + f.caps.length + f.consts.length + f.code.length + i)).flatMap lineP = L at *
                  have hLn : L.length ≤ 67108864 := by omega
                  have HNX : Hid _ := hst
                  clear hst hrm hat hLL
                  simp only at hq
                  obtain ⟨k0, k1, k2, k3⟩ := HOK.out.hs x (List.mem_of_getElem? hx)
                  obtain ⟨fr, too, at_, deep⟩ := x
                  simp only at e0 e1 e2 e3 k0 k1 k2 k3
                  subst hq
                  clear hx hll
                  have HD0 := fun (W : World) => rdigits_in fr k0 W
                  have lHD0 := Lib.itoa_length_le fr k0.1 k0.2
                  have zHD0 : (bs (Lib.itoa fr)).size ≤ 21 := by rw [bs_size]; exact lHD0
                  have HD1 := fun (W : World) => rdigits_in too k1 W
                  have lHD1 := Lib.itoa_length_le too k1.1 k1.2
                  have zHD1 : (bs (Lib.itoa too)).size ≤ 21 := by rw [bs_size]; exact lHD1
                  have HD2 := fun (W : World) => rdigits_in at_ k2 W
                  have lHD2 := Lib.itoa_length_le at_ k2.1 k2.2
                  have zHD2 : (bs (Lib.itoa at_)).size ≤ 21 := by rw [bs_size]; exact lHD2
                  have HD3 := fun (W : World) => rdigits_in deep k3 W
                  have lHD3 := Lib.itoa_length_le deep k3.1 k3.2
                  have zHD3 : (bs (Lib.itoa deep)).size ≤ 21 := by rw [bs_size]; exact lHD3
                  obtain ⟨z2, z3, z4, z5, z6, z7, z8, z9, z10⟩ := sz_han L fr too at_ deep hLn lHD0 lHD1 lHD2 lHD3
                  have hbx := heap_alloc_new wo (.cells #[.int .i64 fr, .int .i64 too, .int .i64 at_, .int .i64 deep] 123)
                  have hbl : wo.heap.size < (wo.alloc (.cells #[.int .i64 fr, .int .i64 too, .int .i64 at_, .int .i64 deep] 123)).heap.size := by simp
                  have hBx := below1 wo (.cells #[.int .i64 fr, .int .i64 too, .int .i64 at_, .int .i64 deep] 123)
                  have HS := fun (W : World) (hW : Below (wo.alloc (.cells #[.int .i64 fr, .int .i64 too, .int .i64 at_, .int .i64 deep] 123)).heap.size (wo.alloc (.cells #[.int .i64 fr, .int .i64 too, .int .i64 at_, .int .i64 deep] 123)) W) => (cell_row4 ((hW.block _ hbl).trans hbx)).1
                  have HW2 : Hid (∀ W, Below (wo.alloc (.cells #[.int .i64 fr, .int .i64 too, .int .i64 at_, .int .i64 deep] 123)).heap.size (wo.alloc (.cells #[.int .i64 fr, .int .i64 too, .int .i64 at_, .int .i64 deep] 123)) W → Below WZ.heap.size WZ W) := fun W hW => hB.trans ((hBx.trans (hW.mono hBx.size)).mono hB.size)
                  have hB0 : Below (wo.alloc (.cells #[.int .i64 fr, .int .i64 too, .int .i64 at_, .int .i64 deep] 123)).heap.size (wo.alloc (.cells #[.int .i64 fr, .int .i64 too, .int .i64 at_, .int .i64 deep] 123)) (wo.alloc (.cells #[.int .i64 fr, .int .i64 too, .int .i64 at_, .int .i64 deep] 123)) := Below.refl _ _
                  clear hbx hbl hBx
                  go_wp2
                  go_region_held3 (fun W => W.cell? ⟨wo.heap.size, 0, none⟩ = some (.int .i64 fr) ∧ W.cell? ⟨wo.heap.size, 1, none⟩ = some (.int .i64 too) ∧ W.cell? ⟨wo.heap.size, 2, none⟩ = some (.int .i64 at_) ∧ W.cell? ⟨wo.heap.size, 3, none⟩ = some (.int .i64 deep)) (first | with_reducible exact HS _ (below_drew hB0) | with_reducible exact HS _ hC4 | with_reducible exact HS _ hC3 | with_reducible exact HS _ hC2 | with_reducible exact HS _ hC1 | go_keep) (first
                    | (go_at_call 159; (with_reducible refine (HD0 (wo.alloc (.cells #[.int .i64 fr, .int .i64 too, .int .i64 at_, .int .i64 deep] 123)).drew).mono ?_); rintro e wz1 ⟨rfl, hBz1⟩; have hC1 : Below (wo.alloc (.cells #[.int .i64 fr, .int .i64 too, .int .i64 at_, .int .i64 deep] 123)).heap.size (wo.alloc (.cells #[.int .i64 fr, .int .i64 too, .int .i64 at_, .int .i64 deep] 123)) wz1 := (below_drew hB0).trans hBz1)
                    | (go_at_call 159; (with_reducible refine (HD1 wz1).mono ?_); rintro e wz2 ⟨rfl, hBz2⟩; have hC2 := hC1.trans (hBz2.mono hC1.size))
                    | (go_at_call 159; (with_reducible refine (HD2 wz2).mono ?_); rintro e wz3 ⟨rfl, hBz3⟩; have hC3 := hC2.trans (hBz3.mono hC2.size))
                    | (go_at_call 159; (with_reducible refine (HD3 wz3).mono ?_); rintro e wz4 ⟨rfl, hBz4⟩; have hC4 := hC3.trans (hBz4.mono hC3.size)))
                  have hBn := HW2.out _ hC4
                  go_wp2
                  go_roundw
                  case rel => exact ⟨i + 1, by rw [HNX.out]; exact congrArg Value.string (eq_han L fr too at_ deep), by simp, by omega, hBn⟩
                  case measure => simp [intOf]; omega
                · have hin' : ¬ ((i : Int) < (f.hs.length : Int)) := by omega
                  have e : (fnT f).take (1 + f.caps.length + f.consts.length + f.code.length + i) = fnT f := List.take_of_length_le (by have := HOK.out.lines; simp [fnT]; omega)
                  rw [e]
                  clear e
                  go_wp2
                  go_ret
                  exact ⟨rfl, HBW.out _ hB⟩

end Lk

end Go.Proofs.YtpjgdbeekmoedaaGreatDoor
