/- The document's constant, caps (gearboxref09). -/
import Derived.Test.YtpjgdbeekmoedaaGreatDoorVfMath
import Derived.Test.YtpjgdbeekmoedaaGreatDoorVfTwin
namespace Go.Proofs.YtpjgdbeekmoedaaGreatDoor
set_option linter.unusedVariables false
set_option linter.unusedSimpArgs false
open Go.RowKit

variable {w : World}

theorem toList_ne {s : ByteArray} (h : ¬ s = ⟨#[]⟩) : ¬ s.toList = [] := by
  intro e
  rw [ByteArray.toList_eq] at e
  apply h
  cases s with
  | mk d => congr 1; simpa using e

theorem size_ne {s : ByteArray} (h : ¬ s.size = 0) : ¬ s = ⟨#[]⟩ := fun e => h (by rw [e]; rfl)

theorem size_eq {s : ByteArray} (h : s.size = 0) : s = ⟨#[]⟩ := by
  cases s with
  | mk d => cases d with | mk l => cases l with
    | nil => rfl
    | cons a b => simp [ByteArray.size] at h

set_option maxRecDepth 20000 in
set_option maxHeartbeats 2000000 in
theorem constant_in (c : Ck) (hk8 : c.k < 256) (w : World) :
    Calls Tryz.prog 194 #[.agg #[.int .u8 c.k, .int .i64 c.n, .string c.s]] w fun e w' => e = .returned (.bool (constP c)) ∧ Below w.heap.size w w' := by
  obtain ⟨k, n, s⟩ := c
  simp only at hk8 ⊢
  obtain ⟨b, hb⟩ : ∃ b, constP ⟨k, n, s⟩ = b := ⟨_, rfl⟩
  rw [hb]
  by_cases h2 : k = 2
  · subst h2
    by_cases hs : s.size = 0
    · obtain rfl : true = b := by rw [← hb]; simp [constP, hs]
      obtain rfl := size_eq hs
      clear hb hs
      go_enter Tryz.func194, Tryz.ntmps194
      go_wp2
      go_ret
      exact ⟨rfl, below1 _ _⟩
    · obtain rfl : false = b := by rw [← hb]; simp [constP, hs]
      have hs1 := size_ne hs
      have hs2 := toList_ne hs1
      have hs3 : s.toList.isEmpty = false := by simpa using hs2
      clear hb
      go_enter Tryz.func194, Tryz.ntmps194
      go_wp2
      go_ret
      exact ⟨rfl, below1 _ _⟩
  · have n2 : ((k : Int) == 2) = false := by simp; omega
    by_cases h3 : k = 3
    · subst h3
      by_cases hn : n = 0
      · subst hn
        by_cases hs : s.size ≤ 4096
        · obtain rfl : true = b := by rw [← hb]; simp [constP, hs]
          have hs' : (s.size : Int) ≤ 4096 := by omega
          clear hb
          go_enter Tryz.func194, Tryz.ntmps194
          go_wp2
          go_ret
          exact ⟨rfl, below1 _ _⟩
        · obtain rfl : false = b := by rw [← hb]; simp [constP, hs]
          have hs' : ¬ ((s.size : Int) ≤ 4096) := by omega
          clear hb
          go_enter Tryz.func194, Tryz.ntmps194
          go_wp2
          go_ret
          exact ⟨rfl, below1 _ _⟩
      · obtain rfl : false = b := by rw [← hb]; simp [constP, hn]
        clear hb
        go_enter Tryz.func194, Tryz.ntmps194
        go_wp2
        go_ret
        exact ⟨rfl, below1 _ _⟩
    · have n3 : ((k : Int) == 3) = false := by simp; omega
      obtain rfl : false = b := by rw [← hb]; simp [constP, h2, h3]
      clear hb h2 h3
      go_enter Tryz.func194, Tryz.ntmps194
      go_wp2
      go_ret
      exact ⟨rfl, below1 _ _⟩

set_option maxRecDepth 20000 in
set_option maxHeartbeats 4000000 in
theorem caps_in (f made : Fm) (s t : Fs) (hv : FnAt w made t) (hl : made.caps.length ≤ 1048576) :
    Calls Tryz.prog 197 #[fnA f s, fnA made t] w fun e w' => e = .returned (.bool (capsP f made)) ∧ Below w.heap.size w w' := by
  unfold fnA
  have hB2 := below2' w (.cells #[.string f.name, .int .i64 f.params, .int .i64 f.locals, .slice s.qc f.caps.length s.cc, .slice s.qk f.consts.length s.ck, .slice s.qi f.code.length s.ci, .slice s.ql f.lines.length s.cl, .slice s.qh f.hs.length s.ch] 68) (.cells #[.string made.name, .int .i64 made.params, .int .i64 made.locals, .slice t.qc made.caps.length t.cc, .slice t.qk made.consts.length t.ck, .slice t.qi made.code.length t.ci, .slice t.ql made.lines.length t.cl, .slice t.qh made.hs.length t.ch] 68)
  have hb0 := (Below.heap_alloc (w.alloc (.cells #[.string f.name, .int .i64 f.params, .int .i64 f.locals, .slice s.qc f.caps.length s.cc, .slice s.qk f.consts.length s.ck, .slice s.qi f.code.length s.ci, .slice s.ql f.lines.length s.cl, .slice s.qh f.hs.length s.ch] 68)) (.cells #[.string made.name, .int .i64 made.params, .int .i64 made.locals, .slice t.qc made.caps.length t.cc, .slice t.qk made.consts.length t.ck, .slice t.qi made.code.length t.ci, .slice t.ql made.lines.length t.cl, .slice t.qh made.hs.length t.ch] 68) w.heap.size (by simp)).trans (heap_alloc_new w (.cells #[.string f.name, .int .i64 f.params, .int .i64 f.locals, .slice s.qc f.caps.length s.cc, .slice s.qk f.consts.length s.ck, .slice s.qi f.code.length s.ci, .slice s.ql f.lines.length s.cl, .slice s.qh f.hs.length s.ch] 68))
  have hb1 := heap_two w (.cells #[.string f.name, .int .i64 f.params, .int .i64 f.locals, .slice s.qc f.caps.length s.cc, .slice s.qk f.consts.length s.ck, .slice s.qi f.code.length s.ci, .slice s.ql f.lines.length s.cl, .slice s.qh f.hs.length s.ch] 68) (.cells #[.string made.name, .int .i64 made.params, .int .i64 made.locals, .slice t.qc made.caps.length t.cc, .slice t.qk made.consts.length t.ck, .slice t.qi made.code.length t.ci, .slice t.ql made.lines.length t.cl, .slice t.qh made.hs.length t.ch] 68)
  have hsz : ((w.alloc (.cells #[.string f.name, .int .i64 f.params, .int .i64 f.locals, .slice s.qc f.caps.length s.cc, .slice s.qk f.consts.length s.ck, .slice s.qi f.code.length s.ci, .slice s.ql f.lines.length s.cl, .slice s.qh f.hs.length s.ch] 68)).alloc (.cells #[.string made.name, .int .i64 made.params, .int .i64 made.locals, .slice t.qc made.caps.length t.cc, .slice t.qk made.consts.length t.ck, .slice t.qi made.code.length t.ci, .slice t.ql made.lines.length t.cl, .slice t.qh made.hs.length t.ch] 68)).heap.size = w.heap.size + 2 := by simp
  have hvc := hv.caps.below hB2
  clear hv
  go_enter Tryz.func197, Tryz.ntmps197
  go_wp2
  generalize hWA : (w.alloc (.cells #[.string f.name, .int .i64 f.params, .int .i64 f.locals, .slice s.qc f.caps.length s.cc, .slice s.qk f.consts.length s.ck, .slice s.qi f.code.length s.ci, .slice s.ql f.lines.length s.cl, .slice s.qh f.hs.length s.ch] 68)).alloc (.cells #[.string made.name, .int .i64 made.params, .int .i64 made.locals, .slice t.qc made.caps.length t.cc, .slice t.qk made.consts.length t.ck, .slice t.qi made.code.length t.ci, .slice t.ql made.lines.length t.cl, .slice t.qh made.hs.length t.ch] 68) = WA at *
  go_loopw [5] (fun k wr => ∃ (pre rest : List Cp), k = .int .i64 pre.length ∧ made.caps = pre ++ rest ∧ capsP f made = rest.all (capP f) ∧ Below WA.heap.size WA wr) (fun k _ => made.caps.length - (intOf k).toNat)
  case atStart => exact ⟨[], made.caps, rfl, rfl, rfl, Below.refl _ _⟩
  case round =>
    obtain ⟨pre, rest, rfl, hR, hA, hB⟩ := hrel
    obtain ⟨⟨o0, o1, o2, o3, o4, o5, o6, o7⟩, -⟩ := cell_row8 ((hB.block w.heap.size (by omega)).trans hb0)
    obtain ⟨⟨p0, p1, p2, p3, p4, p5, p6, p7⟩, -⟩ := cell_row8 ((hB.block (w.heap.size + 1) (by omega)).trans hb1)
    have HF : Hid (∀ W, Below WA.heap.size WA W → Below w.heap.size w W) := fun W h => hB2.trans (h.mono hB2.size)
    cases rest with
    | nil =>
      have hR' : made.caps.length = pre.length := by rw [hR]; simp
      have hq : ¬ ((pre.length : Int) < (made.caps.length : Int)) := by omega
      have HA : Hid _ := hA
      clear hR hR' hA
      go_wp2
      go_ret
      exact ⟨by rw [HA.out]; rfl, HF.out _ hB⟩
    | cons x rest =>
      have hlR : pre.length < made.caps.length := by rw [hR]; simp
      have hlR' : (pre.length : Int) < (made.caps.length : Int) := by omega
      obtain ⟨b0, off, hq, c0, c1⟩ := hvc.lookC hB (j := pre.length) (x := x) (by rw [hR]; simp)
      obtain ⟨up, n⟩ := x
      simp only at c0 c1
      rw [hq] at p3
      have HR : Hid _ := And.intro hR hA
      have e1 : (((pre ++ [(⟨up, n⟩ : Cp)]).length : Nat) : Int) = pre.length + 1 := by simp
      have HB : Hid (Below WA.heap.size WA (wr.alloc (.cells #[.bool up, .int .i64 n] 170))) := hB.alloc hB.size _
      have HN : Hid (capP f ⟨up, n⟩ = false → capsP f made = false) := fun h => by rw [hA]; simp [h]
      have HY : Hid (capP f ⟨up, n⟩ = true → ∃ (pre' rest' : List Cp), Value.int .i64 ((pre.length : Int) + 1) = .int .i64 pre'.length ∧ made.caps = pre' ++ rest' ∧ capsP f made = rest'.all (capP f) ∧ Below WA.heap.size WA (wr.alloc (.cells #[.bool up, .int .i64 n] 170))) := fun h =>
        ⟨pre ++ [⟨up, n⟩], rest, by rw [e1], by rw [hR]; simp, by rw [hA]; simp [h], HB.out⟩
      obtain ⟨⟨r0, r1, r2, r3, r4, r5, r6, r7⟩, -⟩ := cell_row8 ((HB.out.block w.heap.size (by omega)).trans hb0)
      clear hR hA hq
      by_cases h0 : n < 0
      · go_wp2
        go_ret
        exact ⟨by rw [HN.out (by unfold capP; simp; omega)]; rfl, HF.out _ HB.out⟩
      · have h0' : ¬ (n < 0) := h0
        cases up with
        | true =>
          by_cases h1 : n < f.caps.length
          · have h1' : ¬ ((f.caps.length : Int) ≤ n) := by omega
            go_wp2
            go_roundw
            case rel => exact HY.out (by unfold capP; simp; omega)
            case measure => simp [intOf]; omega
          · have h1' : (f.caps.length : Int) ≤ n := by omega
            go_wp2
            go_ret
            exact ⟨by rw [HN.out (by unfold capP; simp; omega)]; rfl, HF.out _ HB.out⟩
        | false =>
          by_cases h1 : n < f.locals
          · have h1' : ¬ (f.locals ≤ n) := by omega
            go_wp2
            go_roundw
            case rel => exact HY.out (by unfold capP; simp; omega)
            case measure => simp [intOf]; omega
          · have h1' : f.locals ≤ n := by omega
            go_wp2
            go_ret
            exact ⟨by rw [HN.out (by unfold capP; simp; omega)]; rfl, HF.out _ HB.out⟩

end Go.Proofs.YtpjgdbeekmoedaaGreatDoor
