/- The document's number (gearboxref09). -/
import Derived.Test.YtpjgdbeekmoedaaGreatDoorVfMath
import Derived.Test.YtpjgdbeekmoedaaGreatDoorVfTwin
namespace Go.Proofs.YtpjgdbeekmoedaaGreatDoor
set_option linter.unusedVariables false
set_option linter.unusedSimpArgs false
open Go.RowKit

variable {w : World}

set_option maxRecDepth 20000 in
set_option maxHeartbeats 8000000 in
theorem number_1 (nf : Nat) (f : Fm) (s : Fs) (pc : Nat) (a : Int) (p : Option Addr) (c : Nat) (hv : FnAt w f s) (hx : f.code[pc]? = some ⟨1, a⟩) (hl : f.code.length ≤ 1048576) (b : Bool) (hb : numberP nf f pc ⟨1, a⟩ = b) :
    Calls Tryz.prog 195 #[.slice p nf c, fnA f s, .int .i64 pc] w fun e w' => e = .returned (.bool b) ∧ Below w.heap.size w w' := by
  have hb0 := heap_alloc_new w (.cells #[.string f.name, .int .i64 f.params, .int .i64 f.locals, .slice s.qc f.caps.length s.cc, .slice s.qk f.consts.length s.ck, .slice s.qi f.code.length s.ci, .slice s.ql f.lines.length s.cl, .slice s.qh f.hs.length s.ch] 68)
  have hB1 := below1 w (.cells #[.string f.name, .int .i64 f.params, .int .i64 f.locals, .slice s.qc f.caps.length s.cc, .slice s.qk f.consts.length s.ck, .slice s.qi f.code.length s.ci, .slice s.ql f.lines.length s.cl, .slice s.qh f.hs.length s.ch] 68)
  obtain ⟨⟨o0, o1, o2, o3, o4, o5, o6, o7⟩, -⟩ := cell_row8 hb0
  have hpc := (List.getElem?_eq_some_iff.1 hx).1
  have hpc' : (pc : Int) < (f.code.length : Int) := by omega
  obtain ⟨b0, off, hq, c0, c1⟩ := hv.code.look2 hB1 hx
  rw [hq] at o5
  unfold fnA
  rw [hq]
  have hBx := below2' w (.cells #[.string f.name, .int .i64 f.params, .int .i64 f.locals, .slice s.qc f.caps.length s.cc, .slice s.qk f.consts.length s.ck, .slice (some ⟨b0, off, none⟩) f.code.length s.ci, .slice s.ql f.lines.length s.cl, .slice s.qh f.hs.length s.ch] 68) (.cells #[.int .u8 1, .int .i64 a] 120)
  rw [hq] at hb0 c0 c1
  clear hx hv hq hB1
  by_cases h1 : 0 ≤ a
  · by_cases h2 : a < f.consts.length
    · obtain rfl : true = b := by rw [← hb]; simp [numberP]; omega
      clear hb
      have h2' : a < (f.consts.length : Int) := h2
      go_enter Tryz.func195, Tryz.ntmps195
      go_wp2
      go_ret
      exact ⟨rfl, hBx⟩
    · obtain rfl : false = b := by rw [← hb]; simp [numberP]; omega
      clear hb
      have h2' : ¬ (a < (f.consts.length : Int)) := h2
      go_enter Tryz.func195, Tryz.ntmps195
      go_wp2
      go_ret
      exact ⟨rfl, hBx⟩
  · obtain rfl : false = b := by rw [← hb]; simp [numberP]; omega
    clear hb
    go_enter Tryz.func195, Tryz.ntmps195
    go_wp2
    go_ret
    exact ⟨rfl, hBx⟩

set_option maxRecDepth 20000 in
set_option maxHeartbeats 8000000 in
theorem number_5 (nf : Nat) (f : Fm) (s : Fs) (pc : Nat) (a : Int) (p : Option Addr) (c : Nat) (hv : FnAt w f s) (hx : f.code[pc]? = some ⟨5, a⟩) (hl : f.code.length ≤ 1048576) (b : Bool) (hb : numberP nf f pc ⟨5, a⟩ = b) :
    Calls Tryz.prog 195 #[.slice p nf c, fnA f s, .int .i64 pc] w fun e w' => e = .returned (.bool b) ∧ Below w.heap.size w w' := by
  have hb0 := heap_alloc_new w (.cells #[.string f.name, .int .i64 f.params, .int .i64 f.locals, .slice s.qc f.caps.length s.cc, .slice s.qk f.consts.length s.ck, .slice s.qi f.code.length s.ci, .slice s.ql f.lines.length s.cl, .slice s.qh f.hs.length s.ch] 68)
  have hB1 := below1 w (.cells #[.string f.name, .int .i64 f.params, .int .i64 f.locals, .slice s.qc f.caps.length s.cc, .slice s.qk f.consts.length s.ck, .slice s.qi f.code.length s.ci, .slice s.ql f.lines.length s.cl, .slice s.qh f.hs.length s.ch] 68)
  obtain ⟨⟨o0, o1, o2, o3, o4, o5, o6, o7⟩, -⟩ := cell_row8 hb0
  have hpc := (List.getElem?_eq_some_iff.1 hx).1
  have hpc' : (pc : Int) < (f.code.length : Int) := by omega
  obtain ⟨b0, off, hq, c0, c1⟩ := hv.code.look2 hB1 hx
  rw [hq] at o5
  unfold fnA
  rw [hq]
  have hBx := below2' w (.cells #[.string f.name, .int .i64 f.params, .int .i64 f.locals, .slice s.qc f.caps.length s.cc, .slice s.qk f.consts.length s.ck, .slice (some ⟨b0, off, none⟩) f.code.length s.ci, .slice s.ql f.lines.length s.cl, .slice s.qh f.hs.length s.ch] 68) (.cells #[.int .u8 5, .int .i64 a] 120)
  rw [hq] at hb0 c0 c1
  clear hx hv hq hB1
  by_cases h1 : 0 ≤ a
  · by_cases h2 : a < f.locals
    · obtain rfl : true = b := by rw [← hb]; simp [numberP]; omega
      clear hb
      have h2' : a < f.locals := h2
      go_enter Tryz.func195, Tryz.ntmps195
      go_wp2
      go_ret
      exact ⟨rfl, hBx⟩
    · obtain rfl : false = b := by rw [← hb]; simp [numberP]; omega
      clear hb
      have h2' : ¬ (a < f.locals) := h2
      go_enter Tryz.func195, Tryz.ntmps195
      go_wp2
      go_ret
      exact ⟨rfl, hBx⟩
  · obtain rfl : false = b := by rw [← hb]; simp [numberP]; omega
    clear hb
    go_enter Tryz.func195, Tryz.ntmps195
    go_wp2
    go_ret
    exact ⟨rfl, hBx⟩

set_option maxRecDepth 20000 in
set_option maxHeartbeats 8000000 in
theorem number_6 (nf : Nat) (f : Fm) (s : Fs) (pc : Nat) (a : Int) (p : Option Addr) (c : Nat) (hv : FnAt w f s) (hx : f.code[pc]? = some ⟨6, a⟩) (hl : f.code.length ≤ 1048576) (b : Bool) (hb : numberP nf f pc ⟨6, a⟩ = b) :
    Calls Tryz.prog 195 #[.slice p nf c, fnA f s, .int .i64 pc] w fun e w' => e = .returned (.bool b) ∧ Below w.heap.size w w' := by
  have hb0 := heap_alloc_new w (.cells #[.string f.name, .int .i64 f.params, .int .i64 f.locals, .slice s.qc f.caps.length s.cc, .slice s.qk f.consts.length s.ck, .slice s.qi f.code.length s.ci, .slice s.ql f.lines.length s.cl, .slice s.qh f.hs.length s.ch] 68)
  have hB1 := below1 w (.cells #[.string f.name, .int .i64 f.params, .int .i64 f.locals, .slice s.qc f.caps.length s.cc, .slice s.qk f.consts.length s.ck, .slice s.qi f.code.length s.ci, .slice s.ql f.lines.length s.cl, .slice s.qh f.hs.length s.ch] 68)
  obtain ⟨⟨o0, o1, o2, o3, o4, o5, o6, o7⟩, -⟩ := cell_row8 hb0
  have hpc := (List.getElem?_eq_some_iff.1 hx).1
  have hpc' : (pc : Int) < (f.code.length : Int) := by omega
  obtain ⟨b0, off, hq, c0, c1⟩ := hv.code.look2 hB1 hx
  rw [hq] at o5
  unfold fnA
  rw [hq]
  have hBx := below2' w (.cells #[.string f.name, .int .i64 f.params, .int .i64 f.locals, .slice s.qc f.caps.length s.cc, .slice s.qk f.consts.length s.ck, .slice (some ⟨b0, off, none⟩) f.code.length s.ci, .slice s.ql f.lines.length s.cl, .slice s.qh f.hs.length s.ch] 68) (.cells #[.int .u8 6, .int .i64 a] 120)
  rw [hq] at hb0 c0 c1
  clear hx hv hq hB1
  by_cases h1 : 0 ≤ a
  · by_cases h2 : a < f.locals
    · obtain rfl : true = b := by rw [← hb]; simp [numberP]; omega
      clear hb
      have h2' : a < f.locals := h2
      go_enter Tryz.func195, Tryz.ntmps195
      go_wp2
      go_ret
      exact ⟨rfl, hBx⟩
    · obtain rfl : false = b := by rw [← hb]; simp [numberP]; omega
      clear hb
      have h2' : ¬ (a < f.locals) := h2
      go_enter Tryz.func195, Tryz.ntmps195
      go_wp2
      go_ret
      exact ⟨rfl, hBx⟩
  · obtain rfl : false = b := by rw [← hb]; simp [numberP]; omega
    clear hb
    go_enter Tryz.func195, Tryz.ntmps195
    go_wp2
    go_ret
    exact ⟨rfl, hBx⟩

set_option maxRecDepth 20000 in
set_option maxHeartbeats 8000000 in
theorem number_7 (nf : Nat) (f : Fm) (s : Fs) (pc : Nat) (a : Int) (p : Option Addr) (c : Nat) (hv : FnAt w f s) (hx : f.code[pc]? = some ⟨7, a⟩) (hl : f.code.length ≤ 1048576) (b : Bool) (hb : numberP nf f pc ⟨7, a⟩ = b) :
    Calls Tryz.prog 195 #[.slice p nf c, fnA f s, .int .i64 pc] w fun e w' => e = .returned (.bool b) ∧ Below w.heap.size w w' := by
  have hb0 := heap_alloc_new w (.cells #[.string f.name, .int .i64 f.params, .int .i64 f.locals, .slice s.qc f.caps.length s.cc, .slice s.qk f.consts.length s.ck, .slice s.qi f.code.length s.ci, .slice s.ql f.lines.length s.cl, .slice s.qh f.hs.length s.ch] 68)
  have hB1 := below1 w (.cells #[.string f.name, .int .i64 f.params, .int .i64 f.locals, .slice s.qc f.caps.length s.cc, .slice s.qk f.consts.length s.ck, .slice s.qi f.code.length s.ci, .slice s.ql f.lines.length s.cl, .slice s.qh f.hs.length s.ch] 68)
  obtain ⟨⟨o0, o1, o2, o3, o4, o5, o6, o7⟩, -⟩ := cell_row8 hb0
  have hpc := (List.getElem?_eq_some_iff.1 hx).1
  have hpc' : (pc : Int) < (f.code.length : Int) := by omega
  obtain ⟨b0, off, hq, c0, c1⟩ := hv.code.look2 hB1 hx
  rw [hq] at o5
  unfold fnA
  rw [hq]
  have hBx := below2' w (.cells #[.string f.name, .int .i64 f.params, .int .i64 f.locals, .slice s.qc f.caps.length s.cc, .slice s.qk f.consts.length s.ck, .slice (some ⟨b0, off, none⟩) f.code.length s.ci, .slice s.ql f.lines.length s.cl, .slice s.qh f.hs.length s.ch] 68) (.cells #[.int .u8 7, .int .i64 a] 120)
  rw [hq] at hb0 c0 c1
  clear hx hv hq hB1
  by_cases h1 : 0 ≤ a
  · by_cases h2 : a < f.locals
    · obtain rfl : true = b := by rw [← hb]; simp [numberP]; omega
      clear hb
      have h2' : a < f.locals := h2
      go_enter Tryz.func195, Tryz.ntmps195
      go_wp2
      go_ret
      exact ⟨rfl, hBx⟩
    · obtain rfl : false = b := by rw [← hb]; simp [numberP]; omega
      clear hb
      have h2' : ¬ (a < f.locals) := h2
      go_enter Tryz.func195, Tryz.ntmps195
      go_wp2
      go_ret
      exact ⟨rfl, hBx⟩
  · obtain rfl : false = b := by rw [← hb]; simp [numberP]; omega
    clear hb
    go_enter Tryz.func195, Tryz.ntmps195
    go_wp2
    go_ret
    exact ⟨rfl, hBx⟩

set_option maxRecDepth 20000 in
set_option maxHeartbeats 8000000 in
theorem number_8 (nf : Nat) (f : Fm) (s : Fs) (pc : Nat) (a : Int) (p : Option Addr) (c : Nat) (hv : FnAt w f s) (hx : f.code[pc]? = some ⟨8, a⟩) (hl : f.code.length ≤ 1048576) (b : Bool) (hb : numberP nf f pc ⟨8, a⟩ = b) :
    Calls Tryz.prog 195 #[.slice p nf c, fnA f s, .int .i64 pc] w fun e w' => e = .returned (.bool b) ∧ Below w.heap.size w w' := by
  have hb0 := heap_alloc_new w (.cells #[.string f.name, .int .i64 f.params, .int .i64 f.locals, .slice s.qc f.caps.length s.cc, .slice s.qk f.consts.length s.ck, .slice s.qi f.code.length s.ci, .slice s.ql f.lines.length s.cl, .slice s.qh f.hs.length s.ch] 68)
  have hB1 := below1 w (.cells #[.string f.name, .int .i64 f.params, .int .i64 f.locals, .slice s.qc f.caps.length s.cc, .slice s.qk f.consts.length s.ck, .slice s.qi f.code.length s.ci, .slice s.ql f.lines.length s.cl, .slice s.qh f.hs.length s.ch] 68)
  obtain ⟨⟨o0, o1, o2, o3, o4, o5, o6, o7⟩, -⟩ := cell_row8 hb0
  have hpc := (List.getElem?_eq_some_iff.1 hx).1
  have hpc' : (pc : Int) < (f.code.length : Int) := by omega
  obtain ⟨b0, off, hq, c0, c1⟩ := hv.code.look2 hB1 hx
  rw [hq] at o5
  unfold fnA
  rw [hq]
  have hBx := below2' w (.cells #[.string f.name, .int .i64 f.params, .int .i64 f.locals, .slice s.qc f.caps.length s.cc, .slice s.qk f.consts.length s.ck, .slice (some ⟨b0, off, none⟩) f.code.length s.ci, .slice s.ql f.lines.length s.cl, .slice s.qh f.hs.length s.ch] 68) (.cells #[.int .u8 8, .int .i64 a] 120)
  rw [hq] at hb0 c0 c1
  clear hx hv hq hB1
  by_cases h1 : 0 ≤ a
  · by_cases h2 : a < f.locals
    · obtain rfl : true = b := by rw [← hb]; simp [numberP]; omega
      clear hb
      have h2' : a < f.locals := h2
      go_enter Tryz.func195, Tryz.ntmps195
      go_wp2
      go_ret
      exact ⟨rfl, hBx⟩
    · obtain rfl : false = b := by rw [← hb]; simp [numberP]; omega
      clear hb
      have h2' : ¬ (a < f.locals) := h2
      go_enter Tryz.func195, Tryz.ntmps195
      go_wp2
      go_ret
      exact ⟨rfl, hBx⟩
  · obtain rfl : false = b := by rw [← hb]; simp [numberP]; omega
    clear hb
    go_enter Tryz.func195, Tryz.ntmps195
    go_wp2
    go_ret
    exact ⟨rfl, hBx⟩

set_option maxRecDepth 20000 in
set_option maxHeartbeats 8000000 in
theorem number_9 (nf : Nat) (f : Fm) (s : Fs) (pc : Nat) (a : Int) (p : Option Addr) (c : Nat) (hv : FnAt w f s) (hx : f.code[pc]? = some ⟨9, a⟩) (hl : f.code.length ≤ 1048576) (b : Bool) (hb : numberP nf f pc ⟨9, a⟩ = b) :
    Calls Tryz.prog 195 #[.slice p nf c, fnA f s, .int .i64 pc] w fun e w' => e = .returned (.bool b) ∧ Below w.heap.size w w' := by
  have hb0 := heap_alloc_new w (.cells #[.string f.name, .int .i64 f.params, .int .i64 f.locals, .slice s.qc f.caps.length s.cc, .slice s.qk f.consts.length s.ck, .slice s.qi f.code.length s.ci, .slice s.ql f.lines.length s.cl, .slice s.qh f.hs.length s.ch] 68)
  have hB1 := below1 w (.cells #[.string f.name, .int .i64 f.params, .int .i64 f.locals, .slice s.qc f.caps.length s.cc, .slice s.qk f.consts.length s.ck, .slice s.qi f.code.length s.ci, .slice s.ql f.lines.length s.cl, .slice s.qh f.hs.length s.ch] 68)
  obtain ⟨⟨o0, o1, o2, o3, o4, o5, o6, o7⟩, -⟩ := cell_row8 hb0
  have hpc := (List.getElem?_eq_some_iff.1 hx).1
  have hpc' : (pc : Int) < (f.code.length : Int) := by omega
  obtain ⟨b0, off, hq, c0, c1⟩ := hv.code.look2 hB1 hx
  rw [hq] at o5
  unfold fnA
  rw [hq]
  have hBx := below2' w (.cells #[.string f.name, .int .i64 f.params, .int .i64 f.locals, .slice s.qc f.caps.length s.cc, .slice s.qk f.consts.length s.ck, .slice (some ⟨b0, off, none⟩) f.code.length s.ci, .slice s.ql f.lines.length s.cl, .slice s.qh f.hs.length s.ch] 68) (.cells #[.int .u8 9, .int .i64 a] 120)
  rw [hq] at hb0 c0 c1
  clear hx hv hq hB1
  by_cases h1 : 0 ≤ a
  · by_cases h2 : a < f.locals
    · obtain rfl : true = b := by rw [← hb]; simp [numberP]; omega
      clear hb
      have h2' : a < f.locals := h2
      go_enter Tryz.func195, Tryz.ntmps195
      go_wp2
      go_ret
      exact ⟨rfl, hBx⟩
    · obtain rfl : false = b := by rw [← hb]; simp [numberP]; omega
      clear hb
      have h2' : ¬ (a < f.locals) := h2
      go_enter Tryz.func195, Tryz.ntmps195
      go_wp2
      go_ret
      exact ⟨rfl, hBx⟩
  · obtain rfl : false = b := by rw [← hb]; simp [numberP]; omega
    clear hb
    go_enter Tryz.func195, Tryz.ntmps195
    go_wp2
    go_ret
    exact ⟨rfl, hBx⟩

set_option maxRecDepth 20000 in
set_option maxHeartbeats 8000000 in
theorem number_10 (nf : Nat) (f : Fm) (s : Fs) (pc : Nat) (a : Int) (p : Option Addr) (c : Nat) (hv : FnAt w f s) (hx : f.code[pc]? = some ⟨10, a⟩) (hl : f.code.length ≤ 1048576) (b : Bool) (hb : numberP nf f pc ⟨10, a⟩ = b) :
    Calls Tryz.prog 195 #[.slice p nf c, fnA f s, .int .i64 pc] w fun e w' => e = .returned (.bool b) ∧ Below w.heap.size w w' := by
  have hb0 := heap_alloc_new w (.cells #[.string f.name, .int .i64 f.params, .int .i64 f.locals, .slice s.qc f.caps.length s.cc, .slice s.qk f.consts.length s.ck, .slice s.qi f.code.length s.ci, .slice s.ql f.lines.length s.cl, .slice s.qh f.hs.length s.ch] 68)
  have hB1 := below1 w (.cells #[.string f.name, .int .i64 f.params, .int .i64 f.locals, .slice s.qc f.caps.length s.cc, .slice s.qk f.consts.length s.ck, .slice s.qi f.code.length s.ci, .slice s.ql f.lines.length s.cl, .slice s.qh f.hs.length s.ch] 68)
  obtain ⟨⟨o0, o1, o2, o3, o4, o5, o6, o7⟩, -⟩ := cell_row8 hb0
  have hpc := (List.getElem?_eq_some_iff.1 hx).1
  have hpc' : (pc : Int) < (f.code.length : Int) := by omega
  obtain ⟨b0, off, hq, c0, c1⟩ := hv.code.look2 hB1 hx
  rw [hq] at o5
  unfold fnA
  rw [hq]
  have hBx := below2' w (.cells #[.string f.name, .int .i64 f.params, .int .i64 f.locals, .slice s.qc f.caps.length s.cc, .slice s.qk f.consts.length s.ck, .slice (some ⟨b0, off, none⟩) f.code.length s.ci, .slice s.ql f.lines.length s.cl, .slice s.qh f.hs.length s.ch] 68) (.cells #[.int .u8 10, .int .i64 a] 120)
  rw [hq] at hb0 c0 c1
  clear hx hv hq hB1
  by_cases h1 : 0 ≤ a
  · by_cases h2 : a < f.caps.length
    · obtain rfl : true = b := by rw [← hb]; simp [numberP]; omega
      clear hb
      have h2' : a < (f.caps.length : Int) := h2
      go_enter Tryz.func195, Tryz.ntmps195
      go_wp2
      go_ret
      exact ⟨rfl, hBx⟩
    · obtain rfl : false = b := by rw [← hb]; simp [numberP]; omega
      clear hb
      have h2' : ¬ (a < (f.caps.length : Int)) := h2
      go_enter Tryz.func195, Tryz.ntmps195
      go_wp2
      go_ret
      exact ⟨rfl, hBx⟩
  · obtain rfl : false = b := by rw [← hb]; simp [numberP]; omega
    clear hb
    go_enter Tryz.func195, Tryz.ntmps195
    go_wp2
    go_ret
    exact ⟨rfl, hBx⟩

set_option maxRecDepth 20000 in
set_option maxHeartbeats 8000000 in
theorem number_11 (nf : Nat) (f : Fm) (s : Fs) (pc : Nat) (a : Int) (p : Option Addr) (c : Nat) (hv : FnAt w f s) (hx : f.code[pc]? = some ⟨11, a⟩) (hl : f.code.length ≤ 1048576) (b : Bool) (hb : numberP nf f pc ⟨11, a⟩ = b) :
    Calls Tryz.prog 195 #[.slice p nf c, fnA f s, .int .i64 pc] w fun e w' => e = .returned (.bool b) ∧ Below w.heap.size w w' := by
  have hb0 := heap_alloc_new w (.cells #[.string f.name, .int .i64 f.params, .int .i64 f.locals, .slice s.qc f.caps.length s.cc, .slice s.qk f.consts.length s.ck, .slice s.qi f.code.length s.ci, .slice s.ql f.lines.length s.cl, .slice s.qh f.hs.length s.ch] 68)
  have hB1 := below1 w (.cells #[.string f.name, .int .i64 f.params, .int .i64 f.locals, .slice s.qc f.caps.length s.cc, .slice s.qk f.consts.length s.ck, .slice s.qi f.code.length s.ci, .slice s.ql f.lines.length s.cl, .slice s.qh f.hs.length s.ch] 68)
  obtain ⟨⟨o0, o1, o2, o3, o4, o5, o6, o7⟩, -⟩ := cell_row8 hb0
  have hpc := (List.getElem?_eq_some_iff.1 hx).1
  have hpc' : (pc : Int) < (f.code.length : Int) := by omega
  obtain ⟨b0, off, hq, c0, c1⟩ := hv.code.look2 hB1 hx
  rw [hq] at o5
  unfold fnA
  rw [hq]
  have hBx := below2' w (.cells #[.string f.name, .int .i64 f.params, .int .i64 f.locals, .slice s.qc f.caps.length s.cc, .slice s.qk f.consts.length s.ck, .slice (some ⟨b0, off, none⟩) f.code.length s.ci, .slice s.ql f.lines.length s.cl, .slice s.qh f.hs.length s.ch] 68) (.cells #[.int .u8 11, .int .i64 a] 120)
  rw [hq] at hb0 c0 c1
  clear hx hv hq hB1
  by_cases h1 : 0 ≤ a
  · by_cases h2 : a < f.caps.length
    · obtain rfl : true = b := by rw [← hb]; simp [numberP]; omega
      clear hb
      have h2' : a < (f.caps.length : Int) := h2
      go_enter Tryz.func195, Tryz.ntmps195
      go_wp2
      go_ret
      exact ⟨rfl, hBx⟩
    · obtain rfl : false = b := by rw [← hb]; simp [numberP]; omega
      clear hb
      have h2' : ¬ (a < (f.caps.length : Int)) := h2
      go_enter Tryz.func195, Tryz.ntmps195
      go_wp2
      go_ret
      exact ⟨rfl, hBx⟩
  · obtain rfl : false = b := by rw [← hb]; simp [numberP]; omega
    clear hb
    go_enter Tryz.func195, Tryz.ntmps195
    go_wp2
    go_ret
    exact ⟨rfl, hBx⟩

set_option maxRecDepth 20000 in
set_option maxHeartbeats 8000000 in
theorem number_14 (nf : Nat) (f : Fm) (s : Fs) (pc : Nat) (a : Int) (p : Option Addr) (c : Nat) (hv : FnAt w f s) (hx : f.code[pc]? = some ⟨14, a⟩) (hl : f.code.length ≤ 1048576) (b : Bool) (hb : numberP nf f pc ⟨14, a⟩ = b) :
    Calls Tryz.prog 195 #[.slice p nf c, fnA f s, .int .i64 pc] w fun e w' => e = .returned (.bool b) ∧ Below w.heap.size w w' := by
  have hb0 := heap_alloc_new w (.cells #[.string f.name, .int .i64 f.params, .int .i64 f.locals, .slice s.qc f.caps.length s.cc, .slice s.qk f.consts.length s.ck, .slice s.qi f.code.length s.ci, .slice s.ql f.lines.length s.cl, .slice s.qh f.hs.length s.ch] 68)
  have hB1 := below1 w (.cells #[.string f.name, .int .i64 f.params, .int .i64 f.locals, .slice s.qc f.caps.length s.cc, .slice s.qk f.consts.length s.ck, .slice s.qi f.code.length s.ci, .slice s.ql f.lines.length s.cl, .slice s.qh f.hs.length s.ch] 68)
  obtain ⟨⟨o0, o1, o2, o3, o4, o5, o6, o7⟩, -⟩ := cell_row8 hb0
  have hpc := (List.getElem?_eq_some_iff.1 hx).1
  have hpc' : (pc : Int) < (f.code.length : Int) := by omega
  obtain ⟨b0, off, hq, c0, c1⟩ := hv.code.look2 hB1 hx
  rw [hq] at o5
  unfold fnA
  rw [hq]
  have hBx := below2' w (.cells #[.string f.name, .int .i64 f.params, .int .i64 f.locals, .slice s.qc f.caps.length s.cc, .slice s.qk f.consts.length s.ck, .slice (some ⟨b0, off, none⟩) f.code.length s.ci, .slice s.ql f.lines.length s.cl, .slice s.qh f.hs.length s.ch] 68) (.cells #[.int .u8 14, .int .i64 a] 120)
  rw [hq] at hb0 c0 c1
  clear hx hv hq hB1
  by_cases h1 : 1 ≤ a
  · by_cases h2 : a ≤ 9
    · obtain rfl : true = b := by rw [← hb]; simp [numberP]; omega
      clear hb
      have h2' : a ≤ 9 := h2
      go_enter Tryz.func195, Tryz.ntmps195
      go_wp2
      go_ret
      exact ⟨rfl, hBx⟩
    · obtain rfl : false = b := by rw [← hb]; simp [numberP]; omega
      clear hb
      have h2' : ¬ (a ≤ 9) := h2
      go_enter Tryz.func195, Tryz.ntmps195
      go_wp2
      go_ret
      exact ⟨rfl, hBx⟩
  · obtain rfl : false = b := by rw [← hb]; simp [numberP]; omega
    clear hb
    go_enter Tryz.func195, Tryz.ntmps195
    go_wp2
    go_ret
    exact ⟨rfl, hBx⟩

set_option maxRecDepth 20000 in
set_option maxHeartbeats 8000000 in
theorem number_19 (nf : Nat) (f : Fm) (s : Fs) (pc : Nat) (a : Int) (p : Option Addr) (c : Nat) (hv : FnAt w f s) (hx : f.code[pc]? = some ⟨19, a⟩) (hl : f.code.length ≤ 1048576) (b : Bool) (hb : numberP nf f pc ⟨19, a⟩ = b) :
    Calls Tryz.prog 195 #[.slice p nf c, fnA f s, .int .i64 pc] w fun e w' => e = .returned (.bool b) ∧ Below w.heap.size w w' := by
  have hb0 := heap_alloc_new w (.cells #[.string f.name, .int .i64 f.params, .int .i64 f.locals, .slice s.qc f.caps.length s.cc, .slice s.qk f.consts.length s.ck, .slice s.qi f.code.length s.ci, .slice s.ql f.lines.length s.cl, .slice s.qh f.hs.length s.ch] 68)
  have hB1 := below1 w (.cells #[.string f.name, .int .i64 f.params, .int .i64 f.locals, .slice s.qc f.caps.length s.cc, .slice s.qk f.consts.length s.ck, .slice s.qi f.code.length s.ci, .slice s.ql f.lines.length s.cl, .slice s.qh f.hs.length s.ch] 68)
  obtain ⟨⟨o0, o1, o2, o3, o4, o5, o6, o7⟩, -⟩ := cell_row8 hb0
  have hpc := (List.getElem?_eq_some_iff.1 hx).1
  have hpc' : (pc : Int) < (f.code.length : Int) := by omega
  obtain ⟨b0, off, hq, c0, c1⟩ := hv.code.look2 hB1 hx
  rw [hq] at o5
  unfold fnA
  rw [hq]
  have hBx := below2' w (.cells #[.string f.name, .int .i64 f.params, .int .i64 f.locals, .slice s.qc f.caps.length s.cc, .slice s.qk f.consts.length s.ck, .slice (some ⟨b0, off, none⟩) f.code.length s.ci, .slice s.ql f.lines.length s.cl, .slice s.qh f.hs.length s.ch] 68) (.cells #[.int .u8 19, .int .i64 a] 120)
  rw [hq] at hb0 c0 c1
  clear hx hv hq hB1
  by_cases h1 : (pc : Int) < a
  · by_cases h2 : a < f.code.length
    · obtain rfl : true = b := by rw [← hb]; simp [numberP]; omega
      clear hb
      have h2' : a < (f.code.length : Int) := h2
      go_enter Tryz.func195, Tryz.ntmps195
      go_wp2
      go_ret
      exact ⟨rfl, hBx⟩
    · obtain rfl : false = b := by rw [← hb]; simp [numberP]; omega
      clear hb
      have h2' : ¬ (a < (f.code.length : Int)) := h2
      go_enter Tryz.func195, Tryz.ntmps195
      go_wp2
      go_ret
      exact ⟨rfl, hBx⟩
  · obtain rfl : false = b := by rw [← hb]; simp [numberP]; omega
    clear hb
    go_enter Tryz.func195, Tryz.ntmps195
    go_wp2
    go_ret
    exact ⟨rfl, hBx⟩

set_option maxRecDepth 20000 in
set_option maxHeartbeats 8000000 in
theorem number_20 (nf : Nat) (f : Fm) (s : Fs) (pc : Nat) (a : Int) (p : Option Addr) (c : Nat) (hv : FnAt w f s) (hx : f.code[pc]? = some ⟨20, a⟩) (hl : f.code.length ≤ 1048576) (b : Bool) (hb : numberP nf f pc ⟨20, a⟩ = b) :
    Calls Tryz.prog 195 #[.slice p nf c, fnA f s, .int .i64 pc] w fun e w' => e = .returned (.bool b) ∧ Below w.heap.size w w' := by
  have hb0 := heap_alloc_new w (.cells #[.string f.name, .int .i64 f.params, .int .i64 f.locals, .slice s.qc f.caps.length s.cc, .slice s.qk f.consts.length s.ck, .slice s.qi f.code.length s.ci, .slice s.ql f.lines.length s.cl, .slice s.qh f.hs.length s.ch] 68)
  have hB1 := below1 w (.cells #[.string f.name, .int .i64 f.params, .int .i64 f.locals, .slice s.qc f.caps.length s.cc, .slice s.qk f.consts.length s.ck, .slice s.qi f.code.length s.ci, .slice s.ql f.lines.length s.cl, .slice s.qh f.hs.length s.ch] 68)
  obtain ⟨⟨o0, o1, o2, o3, o4, o5, o6, o7⟩, -⟩ := cell_row8 hb0
  have hpc := (List.getElem?_eq_some_iff.1 hx).1
  have hpc' : (pc : Int) < (f.code.length : Int) := by omega
  obtain ⟨b0, off, hq, c0, c1⟩ := hv.code.look2 hB1 hx
  rw [hq] at o5
  unfold fnA
  rw [hq]
  have hBx := below2' w (.cells #[.string f.name, .int .i64 f.params, .int .i64 f.locals, .slice s.qc f.caps.length s.cc, .slice s.qk f.consts.length s.ck, .slice (some ⟨b0, off, none⟩) f.code.length s.ci, .slice s.ql f.lines.length s.cl, .slice s.qh f.hs.length s.ch] 68) (.cells #[.int .u8 20, .int .i64 a] 120)
  rw [hq] at hb0 c0 c1
  clear hx hv hq hB1
  by_cases h1 : (pc : Int) < a
  · by_cases h2 : a < f.code.length
    · obtain rfl : true = b := by rw [← hb]; simp [numberP]; omega
      clear hb
      have h2' : a < (f.code.length : Int) := h2
      go_enter Tryz.func195, Tryz.ntmps195
      go_wp2
      go_ret
      exact ⟨rfl, hBx⟩
    · obtain rfl : false = b := by rw [← hb]; simp [numberP]; omega
      clear hb
      have h2' : ¬ (a < (f.code.length : Int)) := h2
      go_enter Tryz.func195, Tryz.ntmps195
      go_wp2
      go_ret
      exact ⟨rfl, hBx⟩
  · obtain rfl : false = b := by rw [← hb]; simp [numberP]; omega
    clear hb
    go_enter Tryz.func195, Tryz.ntmps195
    go_wp2
    go_ret
    exact ⟨rfl, hBx⟩

set_option maxRecDepth 20000 in
set_option maxHeartbeats 8000000 in
theorem number_21 (nf : Nat) (f : Fm) (s : Fs) (pc : Nat) (a : Int) (p : Option Addr) (c : Nat) (hv : FnAt w f s) (hx : f.code[pc]? = some ⟨21, a⟩) (hl : f.code.length ≤ 1048576) (b : Bool) (hb : numberP nf f pc ⟨21, a⟩ = b) :
    Calls Tryz.prog 195 #[.slice p nf c, fnA f s, .int .i64 pc] w fun e w' => e = .returned (.bool b) ∧ Below w.heap.size w w' := by
  have hb0 := heap_alloc_new w (.cells #[.string f.name, .int .i64 f.params, .int .i64 f.locals, .slice s.qc f.caps.length s.cc, .slice s.qk f.consts.length s.ck, .slice s.qi f.code.length s.ci, .slice s.ql f.lines.length s.cl, .slice s.qh f.hs.length s.ch] 68)
  have hB1 := below1 w (.cells #[.string f.name, .int .i64 f.params, .int .i64 f.locals, .slice s.qc f.caps.length s.cc, .slice s.qk f.consts.length s.ck, .slice s.qi f.code.length s.ci, .slice s.ql f.lines.length s.cl, .slice s.qh f.hs.length s.ch] 68)
  obtain ⟨⟨o0, o1, o2, o3, o4, o5, o6, o7⟩, -⟩ := cell_row8 hb0
  have hpc := (List.getElem?_eq_some_iff.1 hx).1
  have hpc' : (pc : Int) < (f.code.length : Int) := by omega
  obtain ⟨b0, off, hq, c0, c1⟩ := hv.code.look2 hB1 hx
  rw [hq] at o5
  unfold fnA
  rw [hq]
  have hBx := below2' w (.cells #[.string f.name, .int .i64 f.params, .int .i64 f.locals, .slice s.qc f.caps.length s.cc, .slice s.qk f.consts.length s.ck, .slice (some ⟨b0, off, none⟩) f.code.length s.ci, .slice s.ql f.lines.length s.cl, .slice s.qh f.hs.length s.ch] 68) (.cells #[.int .u8 21, .int .i64 a] 120)
  rw [hq] at hb0 c0 c1
  clear hx hv hq hB1
  by_cases h1 : 0 ≤ a
  · by_cases h2 : a ≤ (pc : Int)
    · obtain rfl : true = b := by rw [← hb]; simp [numberP]; omega
      clear hb
      have h2' : a ≤ (pc : Int) := h2
      go_enter Tryz.func195, Tryz.ntmps195
      go_wp2
      go_ret
      exact ⟨rfl, hBx⟩
    · obtain rfl : false = b := by rw [← hb]; simp [numberP]; omega
      clear hb
      have h2' : ¬ (a ≤ (pc : Int)) := h2
      go_enter Tryz.func195, Tryz.ntmps195
      go_wp2
      go_ret
      exact ⟨rfl, hBx⟩
  · obtain rfl : false = b := by rw [← hb]; simp [numberP]; omega
    clear hb
    go_enter Tryz.func195, Tryz.ntmps195
    go_wp2
    go_ret
    exact ⟨rfl, hBx⟩

set_option maxRecDepth 20000 in
set_option maxHeartbeats 8000000 in
theorem number_22 (nf : Nat) (f : Fm) (s : Fs) (pc : Nat) (a : Int) (p : Option Addr) (c : Nat) (hv : FnAt w f s) (hx : f.code[pc]? = some ⟨22, a⟩) (hl : f.code.length ≤ 1048576) (b : Bool) (hb : numberP nf f pc ⟨22, a⟩ = b) :
    Calls Tryz.prog 195 #[.slice p nf c, fnA f s, .int .i64 pc] w fun e w' => e = .returned (.bool b) ∧ Below w.heap.size w w' := by
  have hb0 := heap_alloc_new w (.cells #[.string f.name, .int .i64 f.params, .int .i64 f.locals, .slice s.qc f.caps.length s.cc, .slice s.qk f.consts.length s.ck, .slice s.qi f.code.length s.ci, .slice s.ql f.lines.length s.cl, .slice s.qh f.hs.length s.ch] 68)
  have hB1 := below1 w (.cells #[.string f.name, .int .i64 f.params, .int .i64 f.locals, .slice s.qc f.caps.length s.cc, .slice s.qk f.consts.length s.ck, .slice s.qi f.code.length s.ci, .slice s.ql f.lines.length s.cl, .slice s.qh f.hs.length s.ch] 68)
  obtain ⟨⟨o0, o1, o2, o3, o4, o5, o6, o7⟩, -⟩ := cell_row8 hb0
  have hpc := (List.getElem?_eq_some_iff.1 hx).1
  have hpc' : (pc : Int) < (f.code.length : Int) := by omega
  obtain ⟨b0, off, hq, c0, c1⟩ := hv.code.look2 hB1 hx
  rw [hq] at o5
  unfold fnA
  rw [hq]
  have hBx := below2' w (.cells #[.string f.name, .int .i64 f.params, .int .i64 f.locals, .slice s.qc f.caps.length s.cc, .slice s.qk f.consts.length s.ck, .slice (some ⟨b0, off, none⟩) f.code.length s.ci, .slice s.ql f.lines.length s.cl, .slice s.qh f.hs.length s.ch] 68) (.cells #[.int .u8 22, .int .i64 a] 120)
  rw [hq] at hb0 c0 c1
  clear hx hv hq hB1
  by_cases h1 : 0 ≤ a
  · by_cases h2 : a ≤ 256
    · obtain rfl : true = b := by rw [← hb]; simp [numberP]; omega
      clear hb
      have h2' : a ≤ 256 := h2
      go_enter Tryz.func195, Tryz.ntmps195
      go_wp2
      go_ret
      exact ⟨rfl, hBx⟩
    · obtain rfl : false = b := by rw [← hb]; simp [numberP]; omega
      clear hb
      have h2' : ¬ (a ≤ 256) := h2
      go_enter Tryz.func195, Tryz.ntmps195
      go_wp2
      go_ret
      exact ⟨rfl, hBx⟩
  · obtain rfl : false = b := by rw [← hb]; simp [numberP]; omega
    clear hb
    go_enter Tryz.func195, Tryz.ntmps195
    go_wp2
    go_ret
    exact ⟨rfl, hBx⟩

set_option maxRecDepth 20000 in
set_option maxHeartbeats 8000000 in
theorem number_23 (nf : Nat) (f : Fm) (s : Fs) (pc : Nat) (a : Int) (p : Option Addr) (c : Nat) (hv : FnAt w f s) (hx : f.code[pc]? = some ⟨23, a⟩) (hl : f.code.length ≤ 1048576) (b : Bool) (hb : numberP nf f pc ⟨23, a⟩ = b) :
    Calls Tryz.prog 195 #[.slice p nf c, fnA f s, .int .i64 pc] w fun e w' => e = .returned (.bool b) ∧ Below w.heap.size w w' := by
  have hb0 := heap_alloc_new w (.cells #[.string f.name, .int .i64 f.params, .int .i64 f.locals, .slice s.qc f.caps.length s.cc, .slice s.qk f.consts.length s.ck, .slice s.qi f.code.length s.ci, .slice s.ql f.lines.length s.cl, .slice s.qh f.hs.length s.ch] 68)
  have hB1 := below1 w (.cells #[.string f.name, .int .i64 f.params, .int .i64 f.locals, .slice s.qc f.caps.length s.cc, .slice s.qk f.consts.length s.ck, .slice s.qi f.code.length s.ci, .slice s.ql f.lines.length s.cl, .slice s.qh f.hs.length s.ch] 68)
  obtain ⟨⟨o0, o1, o2, o3, o4, o5, o6, o7⟩, -⟩ := cell_row8 hb0
  have hpc := (List.getElem?_eq_some_iff.1 hx).1
  have hpc' : (pc : Int) < (f.code.length : Int) := by omega
  obtain ⟨b0, off, hq, c0, c1⟩ := hv.code.look2 hB1 hx
  rw [hq] at o5
  unfold fnA
  rw [hq]
  have hBx := below2' w (.cells #[.string f.name, .int .i64 f.params, .int .i64 f.locals, .slice s.qc f.caps.length s.cc, .slice s.qk f.consts.length s.ck, .slice (some ⟨b0, off, none⟩) f.code.length s.ci, .slice s.ql f.lines.length s.cl, .slice s.qh f.hs.length s.ch] 68) (.cells #[.int .u8 23, .int .i64 a] 120)
  rw [hq] at hb0 c0 c1
  clear hx hv hq hB1
  by_cases h1 : 0 ≤ a
  · by_cases h2 : a ≤ 256
    · obtain rfl : true = b := by rw [← hb]; simp [numberP]; omega
      clear hb
      have h2' : a ≤ 256 := h2
      go_enter Tryz.func195, Tryz.ntmps195
      go_wp2
      go_ret
      exact ⟨rfl, hBx⟩
    · obtain rfl : false = b := by rw [← hb]; simp [numberP]; omega
      clear hb
      have h2' : ¬ (a ≤ 256) := h2
      go_enter Tryz.func195, Tryz.ntmps195
      go_wp2
      go_ret
      exact ⟨rfl, hBx⟩
  · obtain rfl : false = b := by rw [← hb]; simp [numberP]; omega
    clear hb
    go_enter Tryz.func195, Tryz.ntmps195
    go_wp2
    go_ret
    exact ⟨rfl, hBx⟩

set_option maxRecDepth 20000 in
set_option maxHeartbeats 8000000 in
theorem number_27 (nf : Nat) (f : Fm) (s : Fs) (pc : Nat) (a : Int) (p : Option Addr) (c : Nat) (hv : FnAt w f s) (hx : f.code[pc]? = some ⟨27, a⟩) (hl : f.code.length ≤ 1048576) (b : Bool) (hb : numberP nf f pc ⟨27, a⟩ = b) :
    Calls Tryz.prog 195 #[.slice p nf c, fnA f s, .int .i64 pc] w fun e w' => e = .returned (.bool b) ∧ Below w.heap.size w w' := by
  have hb0 := heap_alloc_new w (.cells #[.string f.name, .int .i64 f.params, .int .i64 f.locals, .slice s.qc f.caps.length s.cc, .slice s.qk f.consts.length s.ck, .slice s.qi f.code.length s.ci, .slice s.ql f.lines.length s.cl, .slice s.qh f.hs.length s.ch] 68)
  have hB1 := below1 w (.cells #[.string f.name, .int .i64 f.params, .int .i64 f.locals, .slice s.qc f.caps.length s.cc, .slice s.qk f.consts.length s.ck, .slice s.qi f.code.length s.ci, .slice s.ql f.lines.length s.cl, .slice s.qh f.hs.length s.ch] 68)
  obtain ⟨⟨o0, o1, o2, o3, o4, o5, o6, o7⟩, -⟩ := cell_row8 hb0
  have hpc := (List.getElem?_eq_some_iff.1 hx).1
  have hpc' : (pc : Int) < (f.code.length : Int) := by omega
  obtain ⟨b0, off, hq, c0, c1⟩ := hv.code.look2 hB1 hx
  rw [hq] at o5
  unfold fnA
  rw [hq]
  have hBx := below2' w (.cells #[.string f.name, .int .i64 f.params, .int .i64 f.locals, .slice s.qc f.caps.length s.cc, .slice s.qk f.consts.length s.ck, .slice (some ⟨b0, off, none⟩) f.code.length s.ci, .slice s.ql f.lines.length s.cl, .slice s.qh f.hs.length s.ch] 68) (.cells #[.int .u8 27, .int .i64 a] 120)
  rw [hq] at hb0 c0 c1
  clear hx hv hq hB1
  by_cases h1 : 0 ≤ a
  · by_cases h2 : a ≤ 256
    · obtain rfl : true = b := by rw [← hb]; simp [numberP]; omega
      clear hb
      have h2' : a ≤ 256 := h2
      go_enter Tryz.func195, Tryz.ntmps195
      go_wp2
      go_ret
      exact ⟨rfl, hBx⟩
    · obtain rfl : false = b := by rw [← hb]; simp [numberP]; omega
      clear hb
      have h2' : ¬ (a ≤ 256) := h2
      go_enter Tryz.func195, Tryz.ntmps195
      go_wp2
      go_ret
      exact ⟨rfl, hBx⟩
  · obtain rfl : false = b := by rw [← hb]; simp [numberP]; omega
    clear hb
    go_enter Tryz.func195, Tryz.ntmps195
    go_wp2
    go_ret
    exact ⟨rfl, hBx⟩

set_option maxRecDepth 20000 in
set_option maxHeartbeats 8000000 in
theorem number_26 (nf : Nat) (f : Fm) (s : Fs) (pc : Nat) (a : Int) (p : Option Addr) (c : Nat) (hv : FnAt w f s) (hx : f.code[pc]? = some ⟨26, a⟩) (hl : f.code.length ≤ 1048576) (b : Bool) (hb : numberP nf f pc ⟨26, a⟩ = b) :
    Calls Tryz.prog 195 #[.slice p nf c, fnA f s, .int .i64 pc] w fun e w' => e = .returned (.bool b) ∧ Below w.heap.size w w' := by
  have hb0 := heap_alloc_new w (.cells #[.string f.name, .int .i64 f.params, .int .i64 f.locals, .slice s.qc f.caps.length s.cc, .slice s.qk f.consts.length s.ck, .slice s.qi f.code.length s.ci, .slice s.ql f.lines.length s.cl, .slice s.qh f.hs.length s.ch] 68)
  have hB1 := below1 w (.cells #[.string f.name, .int .i64 f.params, .int .i64 f.locals, .slice s.qc f.caps.length s.cc, .slice s.qk f.consts.length s.ck, .slice s.qi f.code.length s.ci, .slice s.ql f.lines.length s.cl, .slice s.qh f.hs.length s.ch] 68)
  obtain ⟨⟨o0, o1, o2, o3, o4, o5, o6, o7⟩, -⟩ := cell_row8 hb0
  have hpc := (List.getElem?_eq_some_iff.1 hx).1
  have hpc' : (pc : Int) < (f.code.length : Int) := by omega
  obtain ⟨b0, off, hq, c0, c1⟩ := hv.code.look2 hB1 hx
  rw [hq] at o5
  unfold fnA
  rw [hq]
  have hBx := below2' w (.cells #[.string f.name, .int .i64 f.params, .int .i64 f.locals, .slice s.qc f.caps.length s.cc, .slice s.qk f.consts.length s.ck, .slice (some ⟨b0, off, none⟩) f.code.length s.ci, .slice s.ql f.lines.length s.cl, .slice s.qh f.hs.length s.ch] 68) (.cells #[.int .u8 26, .int .i64 a] 120)
  rw [hq] at hb0 c0 c1
  clear hx hv hq hB1
  by_cases h1 : 1 ≤ a
  · by_cases h2 : a < nf
    · obtain rfl : true = b := by rw [← hb]; simp [numberP]; omega
      clear hb
      have h2' : a < (nf : Int) := h2
      go_enter Tryz.func195, Tryz.ntmps195
      go_wp2
      go_ret
      exact ⟨rfl, hBx⟩
    · obtain rfl : false = b := by rw [← hb]; simp [numberP]; omega
      clear hb
      have h2' : ¬ (a < (nf : Int)) := h2
      go_enter Tryz.func195, Tryz.ntmps195
      go_wp2
      go_ret
      exact ⟨rfl, hBx⟩
  · obtain rfl : false = b := by rw [← hb]; simp [numberP]; omega
    clear hb
    go_enter Tryz.func195, Tryz.ntmps195
    go_wp2
    go_ret
    exact ⟨rfl, hBx⟩

set_option maxRecDepth 20000 in
set_option maxHeartbeats 8000000 in
theorem number_2 (nf : Nat) (f : Fm) (s : Fs) (pc : Nat) (a : Int) (p : Option Addr) (c : Nat) (hv : FnAt w f s) (hx : f.code[pc]? = some ⟨2, a⟩) (hl : f.code.length ≤ 1048576) (b : Bool) (hb : numberP nf f pc ⟨2, a⟩ = b) :
    Calls Tryz.prog 195 #[.slice p nf c, fnA f s, .int .i64 pc] w fun e w' => e = .returned (.bool b) ∧ Below w.heap.size w w' := by
  have hb0 := heap_alloc_new w (.cells #[.string f.name, .int .i64 f.params, .int .i64 f.locals, .slice s.qc f.caps.length s.cc, .slice s.qk f.consts.length s.ck, .slice s.qi f.code.length s.ci, .slice s.ql f.lines.length s.cl, .slice s.qh f.hs.length s.ch] 68)
  have hB1 := below1 w (.cells #[.string f.name, .int .i64 f.params, .int .i64 f.locals, .slice s.qc f.caps.length s.cc, .slice s.qk f.consts.length s.ck, .slice s.qi f.code.length s.ci, .slice s.ql f.lines.length s.cl, .slice s.qh f.hs.length s.ch] 68)
  obtain ⟨⟨o0, o1, o2, o3, o4, o5, o6, o7⟩, -⟩ := cell_row8 hb0
  have hpc := (List.getElem?_eq_some_iff.1 hx).1
  have hpc' : (pc : Int) < (f.code.length : Int) := by omega
  obtain ⟨b0, off, hq, c0, c1⟩ := hv.code.look2 hB1 hx
  rw [hq] at o5
  unfold fnA
  rw [hq]
  have hBx := below2' w (.cells #[.string f.name, .int .i64 f.params, .int .i64 f.locals, .slice s.qc f.caps.length s.cc, .slice s.qk f.consts.length s.ck, .slice (some ⟨b0, off, none⟩) f.code.length s.ci, .slice s.ql f.lines.length s.cl, .slice s.qh f.hs.length s.ch] 68) (.cells #[.int .u8 2, .int .i64 a] 120)
  rw [hq] at hb0 c0 c1
  clear hx hv hq hB1
  by_cases h1 : a = 0
  · obtain rfl : true = b := by rw [← hb]; simp [numberP]; omega
    subst h1
    clear hb
    go_enter Tryz.func195, Tryz.ntmps195
    go_wp2
    go_ret
    exact ⟨rfl, hBx⟩
  · obtain rfl : false = b := by rw [← hb]; simp [numberP]; omega
    have h1b : (a == 0) = false := by simpa using h1
    clear hb
    go_enter Tryz.func195, Tryz.ntmps195
    go_wp2
    go_ret
    exact ⟨rfl, hBx⟩

set_option maxRecDepth 20000 in
set_option maxHeartbeats 8000000 in
theorem number_3 (nf : Nat) (f : Fm) (s : Fs) (pc : Nat) (a : Int) (p : Option Addr) (c : Nat) (hv : FnAt w f s) (hx : f.code[pc]? = some ⟨3, a⟩) (hl : f.code.length ≤ 1048576) (b : Bool) (hb : numberP nf f pc ⟨3, a⟩ = b) :
    Calls Tryz.prog 195 #[.slice p nf c, fnA f s, .int .i64 pc] w fun e w' => e = .returned (.bool b) ∧ Below w.heap.size w w' := by
  have hb0 := heap_alloc_new w (.cells #[.string f.name, .int .i64 f.params, .int .i64 f.locals, .slice s.qc f.caps.length s.cc, .slice s.qk f.consts.length s.ck, .slice s.qi f.code.length s.ci, .slice s.ql f.lines.length s.cl, .slice s.qh f.hs.length s.ch] 68)
  have hB1 := below1 w (.cells #[.string f.name, .int .i64 f.params, .int .i64 f.locals, .slice s.qc f.caps.length s.cc, .slice s.qk f.consts.length s.ck, .slice s.qi f.code.length s.ci, .slice s.ql f.lines.length s.cl, .slice s.qh f.hs.length s.ch] 68)
  obtain ⟨⟨o0, o1, o2, o3, o4, o5, o6, o7⟩, -⟩ := cell_row8 hb0
  have hpc := (List.getElem?_eq_some_iff.1 hx).1
  have hpc' : (pc : Int) < (f.code.length : Int) := by omega
  obtain ⟨b0, off, hq, c0, c1⟩ := hv.code.look2 hB1 hx
  rw [hq] at o5
  unfold fnA
  rw [hq]
  have hBx := below2' w (.cells #[.string f.name, .int .i64 f.params, .int .i64 f.locals, .slice s.qc f.caps.length s.cc, .slice s.qk f.consts.length s.ck, .slice (some ⟨b0, off, none⟩) f.code.length s.ci, .slice s.ql f.lines.length s.cl, .slice s.qh f.hs.length s.ch] 68) (.cells #[.int .u8 3, .int .i64 a] 120)
  rw [hq] at hb0 c0 c1
  clear hx hv hq hB1
  by_cases h1 : a = 0
  · obtain rfl : true = b := by rw [← hb]; simp [numberP]; omega
    subst h1
    clear hb
    go_enter Tryz.func195, Tryz.ntmps195
    go_wp2
    go_ret
    exact ⟨rfl, hBx⟩
  · obtain rfl : false = b := by rw [← hb]; simp [numberP]; omega
    have h1b : (a == 0) = false := by simpa using h1
    clear hb
    go_enter Tryz.func195, Tryz.ntmps195
    go_wp2
    go_ret
    exact ⟨rfl, hBx⟩

set_option maxRecDepth 20000 in
set_option maxHeartbeats 8000000 in
theorem number_4 (nf : Nat) (f : Fm) (s : Fs) (pc : Nat) (a : Int) (p : Option Addr) (c : Nat) (hv : FnAt w f s) (hx : f.code[pc]? = some ⟨4, a⟩) (hl : f.code.length ≤ 1048576) (b : Bool) (hb : numberP nf f pc ⟨4, a⟩ = b) :
    Calls Tryz.prog 195 #[.slice p nf c, fnA f s, .int .i64 pc] w fun e w' => e = .returned (.bool b) ∧ Below w.heap.size w w' := by
  have hb0 := heap_alloc_new w (.cells #[.string f.name, .int .i64 f.params, .int .i64 f.locals, .slice s.qc f.caps.length s.cc, .slice s.qk f.consts.length s.ck, .slice s.qi f.code.length s.ci, .slice s.ql f.lines.length s.cl, .slice s.qh f.hs.length s.ch] 68)
  have hB1 := below1 w (.cells #[.string f.name, .int .i64 f.params, .int .i64 f.locals, .slice s.qc f.caps.length s.cc, .slice s.qk f.consts.length s.ck, .slice s.qi f.code.length s.ci, .slice s.ql f.lines.length s.cl, .slice s.qh f.hs.length s.ch] 68)
  obtain ⟨⟨o0, o1, o2, o3, o4, o5, o6, o7⟩, -⟩ := cell_row8 hb0
  have hpc := (List.getElem?_eq_some_iff.1 hx).1
  have hpc' : (pc : Int) < (f.code.length : Int) := by omega
  obtain ⟨b0, off, hq, c0, c1⟩ := hv.code.look2 hB1 hx
  rw [hq] at o5
  unfold fnA
  rw [hq]
  have hBx := below2' w (.cells #[.string f.name, .int .i64 f.params, .int .i64 f.locals, .slice s.qc f.caps.length s.cc, .slice s.qk f.consts.length s.ck, .slice (some ⟨b0, off, none⟩) f.code.length s.ci, .slice s.ql f.lines.length s.cl, .slice s.qh f.hs.length s.ch] 68) (.cells #[.int .u8 4, .int .i64 a] 120)
  rw [hq] at hb0 c0 c1
  clear hx hv hq hB1
  by_cases h1 : a = 0
  · obtain rfl : true = b := by rw [← hb]; simp [numberP]; omega
    subst h1
    clear hb
    go_enter Tryz.func195, Tryz.ntmps195
    go_wp2
    go_ret
    exact ⟨rfl, hBx⟩
  · obtain rfl : false = b := by rw [← hb]; simp [numberP]; omega
    have h1b : (a == 0) = false := by simpa using h1
    clear hb
    go_enter Tryz.func195, Tryz.ntmps195
    go_wp2
    go_ret
    exact ⟨rfl, hBx⟩

set_option maxRecDepth 20000 in
set_option maxHeartbeats 8000000 in
theorem number_12 (nf : Nat) (f : Fm) (s : Fs) (pc : Nat) (a : Int) (p : Option Addr) (c : Nat) (hv : FnAt w f s) (hx : f.code[pc]? = some ⟨12, a⟩) (hl : f.code.length ≤ 1048576) (b : Bool) (hb : numberP nf f pc ⟨12, a⟩ = b) :
    Calls Tryz.prog 195 #[.slice p nf c, fnA f s, .int .i64 pc] w fun e w' => e = .returned (.bool b) ∧ Below w.heap.size w w' := by
  have hb0 := heap_alloc_new w (.cells #[.string f.name, .int .i64 f.params, .int .i64 f.locals, .slice s.qc f.caps.length s.cc, .slice s.qk f.consts.length s.ck, .slice s.qi f.code.length s.ci, .slice s.ql f.lines.length s.cl, .slice s.qh f.hs.length s.ch] 68)
  have hB1 := below1 w (.cells #[.string f.name, .int .i64 f.params, .int .i64 f.locals, .slice s.qc f.caps.length s.cc, .slice s.qk f.consts.length s.ck, .slice s.qi f.code.length s.ci, .slice s.ql f.lines.length s.cl, .slice s.qh f.hs.length s.ch] 68)
  obtain ⟨⟨o0, o1, o2, o3, o4, o5, o6, o7⟩, -⟩ := cell_row8 hb0
  have hpc := (List.getElem?_eq_some_iff.1 hx).1
  have hpc' : (pc : Int) < (f.code.length : Int) := by omega
  obtain ⟨b0, off, hq, c0, c1⟩ := hv.code.look2 hB1 hx
  rw [hq] at o5
  unfold fnA
  rw [hq]
  have hBx := below2' w (.cells #[.string f.name, .int .i64 f.params, .int .i64 f.locals, .slice s.qc f.caps.length s.cc, .slice s.qk f.consts.length s.ck, .slice (some ⟨b0, off, none⟩) f.code.length s.ci, .slice s.ql f.lines.length s.cl, .slice s.qh f.hs.length s.ch] 68) (.cells #[.int .u8 12, .int .i64 a] 120)
  rw [hq] at hb0 c0 c1
  clear hx hv hq hB1
  by_cases h1 : a = 0
  · obtain rfl : true = b := by rw [← hb]; simp [numberP]; omega
    subst h1
    clear hb
    go_enter Tryz.func195, Tryz.ntmps195
    go_wp2
    go_ret
    exact ⟨rfl, hBx⟩
  · obtain rfl : false = b := by rw [← hb]; simp [numberP]; omega
    have h1b : (a == 0) = false := by simpa using h1
    clear hb
    go_enter Tryz.func195, Tryz.ntmps195
    go_wp2
    go_ret
    exact ⟨rfl, hBx⟩

set_option maxRecDepth 20000 in
set_option maxHeartbeats 8000000 in
theorem number_13 (nf : Nat) (f : Fm) (s : Fs) (pc : Nat) (a : Int) (p : Option Addr) (c : Nat) (hv : FnAt w f s) (hx : f.code[pc]? = some ⟨13, a⟩) (hl : f.code.length ≤ 1048576) (b : Bool) (hb : numberP nf f pc ⟨13, a⟩ = b) :
    Calls Tryz.prog 195 #[.slice p nf c, fnA f s, .int .i64 pc] w fun e w' => e = .returned (.bool b) ∧ Below w.heap.size w w' := by
  have hb0 := heap_alloc_new w (.cells #[.string f.name, .int .i64 f.params, .int .i64 f.locals, .slice s.qc f.caps.length s.cc, .slice s.qk f.consts.length s.ck, .slice s.qi f.code.length s.ci, .slice s.ql f.lines.length s.cl, .slice s.qh f.hs.length s.ch] 68)
  have hB1 := below1 w (.cells #[.string f.name, .int .i64 f.params, .int .i64 f.locals, .slice s.qc f.caps.length s.cc, .slice s.qk f.consts.length s.ck, .slice s.qi f.code.length s.ci, .slice s.ql f.lines.length s.cl, .slice s.qh f.hs.length s.ch] 68)
  obtain ⟨⟨o0, o1, o2, o3, o4, o5, o6, o7⟩, -⟩ := cell_row8 hb0
  have hpc := (List.getElem?_eq_some_iff.1 hx).1
  have hpc' : (pc : Int) < (f.code.length : Int) := by omega
  obtain ⟨b0, off, hq, c0, c1⟩ := hv.code.look2 hB1 hx
  rw [hq] at o5
  unfold fnA
  rw [hq]
  have hBx := below2' w (.cells #[.string f.name, .int .i64 f.params, .int .i64 f.locals, .slice s.qc f.caps.length s.cc, .slice s.qk f.consts.length s.ck, .slice (some ⟨b0, off, none⟩) f.code.length s.ci, .slice s.ql f.lines.length s.cl, .slice s.qh f.hs.length s.ch] 68) (.cells #[.int .u8 13, .int .i64 a] 120)
  rw [hq] at hb0 c0 c1
  clear hx hv hq hB1
  by_cases h1 : a = 0
  · obtain rfl : true = b := by rw [← hb]; simp [numberP]; omega
    subst h1
    clear hb
    go_enter Tryz.func195, Tryz.ntmps195
    go_wp2
    go_ret
    exact ⟨rfl, hBx⟩
  · obtain rfl : false = b := by rw [← hb]; simp [numberP]; omega
    have h1b : (a == 0) = false := by simpa using h1
    clear hb
    go_enter Tryz.func195, Tryz.ntmps195
    go_wp2
    go_ret
    exact ⟨rfl, hBx⟩

set_option maxRecDepth 20000 in
set_option maxHeartbeats 8000000 in
theorem number_15 (nf : Nat) (f : Fm) (s : Fs) (pc : Nat) (a : Int) (p : Option Addr) (c : Nat) (hv : FnAt w f s) (hx : f.code[pc]? = some ⟨15, a⟩) (hl : f.code.length ≤ 1048576) (b : Bool) (hb : numberP nf f pc ⟨15, a⟩ = b) :
    Calls Tryz.prog 195 #[.slice p nf c, fnA f s, .int .i64 pc] w fun e w' => e = .returned (.bool b) ∧ Below w.heap.size w w' := by
  have hb0 := heap_alloc_new w (.cells #[.string f.name, .int .i64 f.params, .int .i64 f.locals, .slice s.qc f.caps.length s.cc, .slice s.qk f.consts.length s.ck, .slice s.qi f.code.length s.ci, .slice s.ql f.lines.length s.cl, .slice s.qh f.hs.length s.ch] 68)
  have hB1 := below1 w (.cells #[.string f.name, .int .i64 f.params, .int .i64 f.locals, .slice s.qc f.caps.length s.cc, .slice s.qk f.consts.length s.ck, .slice s.qi f.code.length s.ci, .slice s.ql f.lines.length s.cl, .slice s.qh f.hs.length s.ch] 68)
  obtain ⟨⟨o0, o1, o2, o3, o4, o5, o6, o7⟩, -⟩ := cell_row8 hb0
  have hpc := (List.getElem?_eq_some_iff.1 hx).1
  have hpc' : (pc : Int) < (f.code.length : Int) := by omega
  obtain ⟨b0, off, hq, c0, c1⟩ := hv.code.look2 hB1 hx
  rw [hq] at o5
  unfold fnA
  rw [hq]
  have hBx := below2' w (.cells #[.string f.name, .int .i64 f.params, .int .i64 f.locals, .slice s.qc f.caps.length s.cc, .slice s.qk f.consts.length s.ck, .slice (some ⟨b0, off, none⟩) f.code.length s.ci, .slice s.ql f.lines.length s.cl, .slice s.qh f.hs.length s.ch] 68) (.cells #[.int .u8 15, .int .i64 a] 120)
  rw [hq] at hb0 c0 c1
  clear hx hv hq hB1
  by_cases h1 : a = 0
  · obtain rfl : true = b := by rw [← hb]; simp [numberP]; omega
    subst h1
    clear hb
    go_enter Tryz.func195, Tryz.ntmps195
    go_wp2
    go_ret
    exact ⟨rfl, hBx⟩
  · obtain rfl : false = b := by rw [← hb]; simp [numberP]; omega
    have h1b : (a == 0) = false := by simpa using h1
    clear hb
    go_enter Tryz.func195, Tryz.ntmps195
    go_wp2
    go_ret
    exact ⟨rfl, hBx⟩

set_option maxRecDepth 20000 in
set_option maxHeartbeats 8000000 in
theorem number_16 (nf : Nat) (f : Fm) (s : Fs) (pc : Nat) (a : Int) (p : Option Addr) (c : Nat) (hv : FnAt w f s) (hx : f.code[pc]? = some ⟨16, a⟩) (hl : f.code.length ≤ 1048576) (b : Bool) (hb : numberP nf f pc ⟨16, a⟩ = b) :
    Calls Tryz.prog 195 #[.slice p nf c, fnA f s, .int .i64 pc] w fun e w' => e = .returned (.bool b) ∧ Below w.heap.size w w' := by
  have hb0 := heap_alloc_new w (.cells #[.string f.name, .int .i64 f.params, .int .i64 f.locals, .slice s.qc f.caps.length s.cc, .slice s.qk f.consts.length s.ck, .slice s.qi f.code.length s.ci, .slice s.ql f.lines.length s.cl, .slice s.qh f.hs.length s.ch] 68)
  have hB1 := below1 w (.cells #[.string f.name, .int .i64 f.params, .int .i64 f.locals, .slice s.qc f.caps.length s.cc, .slice s.qk f.consts.length s.ck, .slice s.qi f.code.length s.ci, .slice s.ql f.lines.length s.cl, .slice s.qh f.hs.length s.ch] 68)
  obtain ⟨⟨o0, o1, o2, o3, o4, o5, o6, o7⟩, -⟩ := cell_row8 hb0
  have hpc := (List.getElem?_eq_some_iff.1 hx).1
  have hpc' : (pc : Int) < (f.code.length : Int) := by omega
  obtain ⟨b0, off, hq, c0, c1⟩ := hv.code.look2 hB1 hx
  rw [hq] at o5
  unfold fnA
  rw [hq]
  have hBx := below2' w (.cells #[.string f.name, .int .i64 f.params, .int .i64 f.locals, .slice s.qc f.caps.length s.cc, .slice s.qk f.consts.length s.ck, .slice (some ⟨b0, off, none⟩) f.code.length s.ci, .slice s.ql f.lines.length s.cl, .slice s.qh f.hs.length s.ch] 68) (.cells #[.int .u8 16, .int .i64 a] 120)
  rw [hq] at hb0 c0 c1
  clear hx hv hq hB1
  by_cases h1 : a = 0
  · obtain rfl : true = b := by rw [← hb]; simp [numberP]; omega
    subst h1
    clear hb
    go_enter Tryz.func195, Tryz.ntmps195
    go_wp2
    go_ret
    exact ⟨rfl, hBx⟩
  · obtain rfl : false = b := by rw [← hb]; simp [numberP]; omega
    have h1b : (a == 0) = false := by simpa using h1
    clear hb
    go_enter Tryz.func195, Tryz.ntmps195
    go_wp2
    go_ret
    exact ⟨rfl, hBx⟩

set_option maxRecDepth 20000 in
set_option maxHeartbeats 8000000 in
theorem number_17 (nf : Nat) (f : Fm) (s : Fs) (pc : Nat) (a : Int) (p : Option Addr) (c : Nat) (hv : FnAt w f s) (hx : f.code[pc]? = some ⟨17, a⟩) (hl : f.code.length ≤ 1048576) (b : Bool) (hb : numberP nf f pc ⟨17, a⟩ = b) :
    Calls Tryz.prog 195 #[.slice p nf c, fnA f s, .int .i64 pc] w fun e w' => e = .returned (.bool b) ∧ Below w.heap.size w w' := by
  have hb0 := heap_alloc_new w (.cells #[.string f.name, .int .i64 f.params, .int .i64 f.locals, .slice s.qc f.caps.length s.cc, .slice s.qk f.consts.length s.ck, .slice s.qi f.code.length s.ci, .slice s.ql f.lines.length s.cl, .slice s.qh f.hs.length s.ch] 68)
  have hB1 := below1 w (.cells #[.string f.name, .int .i64 f.params, .int .i64 f.locals, .slice s.qc f.caps.length s.cc, .slice s.qk f.consts.length s.ck, .slice s.qi f.code.length s.ci, .slice s.ql f.lines.length s.cl, .slice s.qh f.hs.length s.ch] 68)
  obtain ⟨⟨o0, o1, o2, o3, o4, o5, o6, o7⟩, -⟩ := cell_row8 hb0
  have hpc := (List.getElem?_eq_some_iff.1 hx).1
  have hpc' : (pc : Int) < (f.code.length : Int) := by omega
  obtain ⟨b0, off, hq, c0, c1⟩ := hv.code.look2 hB1 hx
  rw [hq] at o5
  unfold fnA
  rw [hq]
  have hBx := below2' w (.cells #[.string f.name, .int .i64 f.params, .int .i64 f.locals, .slice s.qc f.caps.length s.cc, .slice s.qk f.consts.length s.ck, .slice (some ⟨b0, off, none⟩) f.code.length s.ci, .slice s.ql f.lines.length s.cl, .slice s.qh f.hs.length s.ch] 68) (.cells #[.int .u8 17, .int .i64 a] 120)
  rw [hq] at hb0 c0 c1
  clear hx hv hq hB1
  by_cases h1 : a = 0
  · obtain rfl : true = b := by rw [← hb]; simp [numberP]; omega
    subst h1
    clear hb
    go_enter Tryz.func195, Tryz.ntmps195
    go_wp2
    go_ret
    exact ⟨rfl, hBx⟩
  · obtain rfl : false = b := by rw [← hb]; simp [numberP]; omega
    have h1b : (a == 0) = false := by simpa using h1
    clear hb
    go_enter Tryz.func195, Tryz.ntmps195
    go_wp2
    go_ret
    exact ⟨rfl, hBx⟩

set_option maxRecDepth 20000 in
set_option maxHeartbeats 8000000 in
theorem number_18 (nf : Nat) (f : Fm) (s : Fs) (pc : Nat) (a : Int) (p : Option Addr) (c : Nat) (hv : FnAt w f s) (hx : f.code[pc]? = some ⟨18, a⟩) (hl : f.code.length ≤ 1048576) (b : Bool) (hb : numberP nf f pc ⟨18, a⟩ = b) :
    Calls Tryz.prog 195 #[.slice p nf c, fnA f s, .int .i64 pc] w fun e w' => e = .returned (.bool b) ∧ Below w.heap.size w w' := by
  have hb0 := heap_alloc_new w (.cells #[.string f.name, .int .i64 f.params, .int .i64 f.locals, .slice s.qc f.caps.length s.cc, .slice s.qk f.consts.length s.ck, .slice s.qi f.code.length s.ci, .slice s.ql f.lines.length s.cl, .slice s.qh f.hs.length s.ch] 68)
  have hB1 := below1 w (.cells #[.string f.name, .int .i64 f.params, .int .i64 f.locals, .slice s.qc f.caps.length s.cc, .slice s.qk f.consts.length s.ck, .slice s.qi f.code.length s.ci, .slice s.ql f.lines.length s.cl, .slice s.qh f.hs.length s.ch] 68)
  obtain ⟨⟨o0, o1, o2, o3, o4, o5, o6, o7⟩, -⟩ := cell_row8 hb0
  have hpc := (List.getElem?_eq_some_iff.1 hx).1
  have hpc' : (pc : Int) < (f.code.length : Int) := by omega
  obtain ⟨b0, off, hq, c0, c1⟩ := hv.code.look2 hB1 hx
  rw [hq] at o5
  unfold fnA
  rw [hq]
  have hBx := below2' w (.cells #[.string f.name, .int .i64 f.params, .int .i64 f.locals, .slice s.qc f.caps.length s.cc, .slice s.qk f.consts.length s.ck, .slice (some ⟨b0, off, none⟩) f.code.length s.ci, .slice s.ql f.lines.length s.cl, .slice s.qh f.hs.length s.ch] 68) (.cells #[.int .u8 18, .int .i64 a] 120)
  rw [hq] at hb0 c0 c1
  clear hx hv hq hB1
  by_cases h1 : a = 0
  · obtain rfl : true = b := by rw [← hb]; simp [numberP]; omega
    subst h1
    clear hb
    go_enter Tryz.func195, Tryz.ntmps195
    go_wp2
    go_ret
    exact ⟨rfl, hBx⟩
  · obtain rfl : false = b := by rw [← hb]; simp [numberP]; omega
    have h1b : (a == 0) = false := by simpa using h1
    clear hb
    go_enter Tryz.func195, Tryz.ntmps195
    go_wp2
    go_ret
    exact ⟨rfl, hBx⟩

set_option maxRecDepth 20000 in
set_option maxHeartbeats 8000000 in
theorem number_24 (nf : Nat) (f : Fm) (s : Fs) (pc : Nat) (a : Int) (p : Option Addr) (c : Nat) (hv : FnAt w f s) (hx : f.code[pc]? = some ⟨24, a⟩) (hl : f.code.length ≤ 1048576) (b : Bool) (hb : numberP nf f pc ⟨24, a⟩ = b) :
    Calls Tryz.prog 195 #[.slice p nf c, fnA f s, .int .i64 pc] w fun e w' => e = .returned (.bool b) ∧ Below w.heap.size w w' := by
  have hb0 := heap_alloc_new w (.cells #[.string f.name, .int .i64 f.params, .int .i64 f.locals, .slice s.qc f.caps.length s.cc, .slice s.qk f.consts.length s.ck, .slice s.qi f.code.length s.ci, .slice s.ql f.lines.length s.cl, .slice s.qh f.hs.length s.ch] 68)
  have hB1 := below1 w (.cells #[.string f.name, .int .i64 f.params, .int .i64 f.locals, .slice s.qc f.caps.length s.cc, .slice s.qk f.consts.length s.ck, .slice s.qi f.code.length s.ci, .slice s.ql f.lines.length s.cl, .slice s.qh f.hs.length s.ch] 68)
  obtain ⟨⟨o0, o1, o2, o3, o4, o5, o6, o7⟩, -⟩ := cell_row8 hb0
  have hpc := (List.getElem?_eq_some_iff.1 hx).1
  have hpc' : (pc : Int) < (f.code.length : Int) := by omega
  obtain ⟨b0, off, hq, c0, c1⟩ := hv.code.look2 hB1 hx
  rw [hq] at o5
  unfold fnA
  rw [hq]
  have hBx := below2' w (.cells #[.string f.name, .int .i64 f.params, .int .i64 f.locals, .slice s.qc f.caps.length s.cc, .slice s.qk f.consts.length s.ck, .slice (some ⟨b0, off, none⟩) f.code.length s.ci, .slice s.ql f.lines.length s.cl, .slice s.qh f.hs.length s.ch] 68) (.cells #[.int .u8 24, .int .i64 a] 120)
  rw [hq] at hb0 c0 c1
  clear hx hv hq hB1
  by_cases h1 : a = 0
  · obtain rfl : true = b := by rw [← hb]; simp [numberP]; omega
    subst h1
    clear hb
    go_enter Tryz.func195, Tryz.ntmps195
    go_wp2
    go_ret
    exact ⟨rfl, hBx⟩
  · obtain rfl : false = b := by rw [← hb]; simp [numberP]; omega
    have h1b : (a == 0) = false := by simpa using h1
    clear hb
    go_enter Tryz.func195, Tryz.ntmps195
    go_wp2
    go_ret
    exact ⟨rfl, hBx⟩

set_option maxRecDepth 20000 in
set_option maxHeartbeats 8000000 in
theorem number_25 (nf : Nat) (f : Fm) (s : Fs) (pc : Nat) (a : Int) (p : Option Addr) (c : Nat) (hv : FnAt w f s) (hx : f.code[pc]? = some ⟨25, a⟩) (hl : f.code.length ≤ 1048576) (b : Bool) (hb : numberP nf f pc ⟨25, a⟩ = b) :
    Calls Tryz.prog 195 #[.slice p nf c, fnA f s, .int .i64 pc] w fun e w' => e = .returned (.bool b) ∧ Below w.heap.size w w' := by
  have hb0 := heap_alloc_new w (.cells #[.string f.name, .int .i64 f.params, .int .i64 f.locals, .slice s.qc f.caps.length s.cc, .slice s.qk f.consts.length s.ck, .slice s.qi f.code.length s.ci, .slice s.ql f.lines.length s.cl, .slice s.qh f.hs.length s.ch] 68)
  have hB1 := below1 w (.cells #[.string f.name, .int .i64 f.params, .int .i64 f.locals, .slice s.qc f.caps.length s.cc, .slice s.qk f.consts.length s.ck, .slice s.qi f.code.length s.ci, .slice s.ql f.lines.length s.cl, .slice s.qh f.hs.length s.ch] 68)
  obtain ⟨⟨o0, o1, o2, o3, o4, o5, o6, o7⟩, -⟩ := cell_row8 hb0
  have hpc := (List.getElem?_eq_some_iff.1 hx).1
  have hpc' : (pc : Int) < (f.code.length : Int) := by omega
  obtain ⟨b0, off, hq, c0, c1⟩ := hv.code.look2 hB1 hx
  rw [hq] at o5
  unfold fnA
  rw [hq]
  have hBx := below2' w (.cells #[.string f.name, .int .i64 f.params, .int .i64 f.locals, .slice s.qc f.caps.length s.cc, .slice s.qk f.consts.length s.ck, .slice (some ⟨b0, off, none⟩) f.code.length s.ci, .slice s.ql f.lines.length s.cl, .slice s.qh f.hs.length s.ch] 68) (.cells #[.int .u8 25, .int .i64 a] 120)
  rw [hq] at hb0 c0 c1
  clear hx hv hq hB1
  by_cases h1 : a = 0
  · obtain rfl : true = b := by rw [← hb]; simp [numberP]; omega
    subst h1
    clear hb
    go_enter Tryz.func195, Tryz.ntmps195
    go_wp2
    go_ret
    exact ⟨rfl, hBx⟩
  · obtain rfl : false = b := by rw [← hb]; simp [numberP]; omega
    have h1b : (a == 0) = false := by simpa using h1
    clear hb
    go_enter Tryz.func195, Tryz.ntmps195
    go_wp2
    go_ret
    exact ⟨rfl, hBx⟩

set_option maxRecDepth 20000 in
set_option maxHeartbeats 8000000 in
theorem number_28 (nf : Nat) (f : Fm) (s : Fs) (pc : Nat) (a : Int) (p : Option Addr) (c : Nat) (hv : FnAt w f s) (hx : f.code[pc]? = some ⟨28, a⟩) (hl : f.code.length ≤ 1048576) (b : Bool) (hb : numberP nf f pc ⟨28, a⟩ = b) :
    Calls Tryz.prog 195 #[.slice p nf c, fnA f s, .int .i64 pc] w fun e w' => e = .returned (.bool b) ∧ Below w.heap.size w w' := by
  have hb0 := heap_alloc_new w (.cells #[.string f.name, .int .i64 f.params, .int .i64 f.locals, .slice s.qc f.caps.length s.cc, .slice s.qk f.consts.length s.ck, .slice s.qi f.code.length s.ci, .slice s.ql f.lines.length s.cl, .slice s.qh f.hs.length s.ch] 68)
  have hB1 := below1 w (.cells #[.string f.name, .int .i64 f.params, .int .i64 f.locals, .slice s.qc f.caps.length s.cc, .slice s.qk f.consts.length s.ck, .slice s.qi f.code.length s.ci, .slice s.ql f.lines.length s.cl, .slice s.qh f.hs.length s.ch] 68)
  obtain ⟨⟨o0, o1, o2, o3, o4, o5, o6, o7⟩, -⟩ := cell_row8 hb0
  have hpc := (List.getElem?_eq_some_iff.1 hx).1
  have hpc' : (pc : Int) < (f.code.length : Int) := by omega
  obtain ⟨b0, off, hq, c0, c1⟩ := hv.code.look2 hB1 hx
  rw [hq] at o5
  unfold fnA
  rw [hq]
  have hBx := below2' w (.cells #[.string f.name, .int .i64 f.params, .int .i64 f.locals, .slice s.qc f.caps.length s.cc, .slice s.qk f.consts.length s.ck, .slice (some ⟨b0, off, none⟩) f.code.length s.ci, .slice s.ql f.lines.length s.cl, .slice s.qh f.hs.length s.ch] 68) (.cells #[.int .u8 28, .int .i64 a] 120)
  rw [hq] at hb0 c0 c1
  clear hx hv hq hB1
  by_cases h1 : a = 0
  · obtain rfl : true = b := by rw [← hb]; simp [numberP]; omega
    subst h1
    clear hb
    go_enter Tryz.func195, Tryz.ntmps195
    go_wp2
    go_ret
    exact ⟨rfl, hBx⟩
  · obtain rfl : false = b := by rw [← hb]; simp [numberP]; omega
    have h1b : (a == 0) = false := by simpa using h1
    clear hb
    go_enter Tryz.func195, Tryz.ntmps195
    go_wp2
    go_ret
    exact ⟨rfl, hBx⟩

set_option maxRecDepth 20000 in
set_option maxHeartbeats 8000000 in
theorem number_29 (nf : Nat) (f : Fm) (s : Fs) (pc : Nat) (a : Int) (p : Option Addr) (c : Nat) (hv : FnAt w f s) (hx : f.code[pc]? = some ⟨29, a⟩) (hl : f.code.length ≤ 1048576) (b : Bool) (hb : numberP nf f pc ⟨29, a⟩ = b) :
    Calls Tryz.prog 195 #[.slice p nf c, fnA f s, .int .i64 pc] w fun e w' => e = .returned (.bool b) ∧ Below w.heap.size w w' := by
  have hb0 := heap_alloc_new w (.cells #[.string f.name, .int .i64 f.params, .int .i64 f.locals, .slice s.qc f.caps.length s.cc, .slice s.qk f.consts.length s.ck, .slice s.qi f.code.length s.ci, .slice s.ql f.lines.length s.cl, .slice s.qh f.hs.length s.ch] 68)
  have hB1 := below1 w (.cells #[.string f.name, .int .i64 f.params, .int .i64 f.locals, .slice s.qc f.caps.length s.cc, .slice s.qk f.consts.length s.ck, .slice s.qi f.code.length s.ci, .slice s.ql f.lines.length s.cl, .slice s.qh f.hs.length s.ch] 68)
  obtain ⟨⟨o0, o1, o2, o3, o4, o5, o6, o7⟩, -⟩ := cell_row8 hb0
  have hpc := (List.getElem?_eq_some_iff.1 hx).1
  have hpc' : (pc : Int) < (f.code.length : Int) := by omega
  obtain ⟨b0, off, hq, c0, c1⟩ := hv.code.look2 hB1 hx
  rw [hq] at o5
  unfold fnA
  rw [hq]
  have hBx := below2' w (.cells #[.string f.name, .int .i64 f.params, .int .i64 f.locals, .slice s.qc f.caps.length s.cc, .slice s.qk f.consts.length s.ck, .slice (some ⟨b0, off, none⟩) f.code.length s.ci, .slice s.ql f.lines.length s.cl, .slice s.qh f.hs.length s.ch] 68) (.cells #[.int .u8 29, .int .i64 a] 120)
  rw [hq] at hb0 c0 c1
  clear hx hv hq hB1
  by_cases h1 : a = 0
  · obtain rfl : true = b := by rw [← hb]; simp [numberP]; omega
    subst h1
    clear hb
    go_enter Tryz.func195, Tryz.ntmps195
    go_wp2
    go_ret
    exact ⟨rfl, hBx⟩
  · obtain rfl : false = b := by rw [← hb]; simp [numberP]; omega
    have h1b : (a == 0) = false := by simpa using h1
    clear hb
    go_enter Tryz.func195, Tryz.ntmps195
    go_wp2
    go_ret
    exact ⟨rfl, hBx⟩

set_option maxRecDepth 20000 in
set_option maxHeartbeats 8000000 in
theorem number_30 (nf : Nat) (f : Fm) (s : Fs) (pc : Nat) (a : Int) (p : Option Addr) (c : Nat) (hv : FnAt w f s) (hx : f.code[pc]? = some ⟨30, a⟩) (hl : f.code.length ≤ 1048576) (b : Bool) (hb : numberP nf f pc ⟨30, a⟩ = b) :
    Calls Tryz.prog 195 #[.slice p nf c, fnA f s, .int .i64 pc] w fun e w' => e = .returned (.bool b) ∧ Below w.heap.size w w' := by
  have hb0 := heap_alloc_new w (.cells #[.string f.name, .int .i64 f.params, .int .i64 f.locals, .slice s.qc f.caps.length s.cc, .slice s.qk f.consts.length s.ck, .slice s.qi f.code.length s.ci, .slice s.ql f.lines.length s.cl, .slice s.qh f.hs.length s.ch] 68)
  have hB1 := below1 w (.cells #[.string f.name, .int .i64 f.params, .int .i64 f.locals, .slice s.qc f.caps.length s.cc, .slice s.qk f.consts.length s.ck, .slice s.qi f.code.length s.ci, .slice s.ql f.lines.length s.cl, .slice s.qh f.hs.length s.ch] 68)
  obtain ⟨⟨o0, o1, o2, o3, o4, o5, o6, o7⟩, -⟩ := cell_row8 hb0
  have hpc := (List.getElem?_eq_some_iff.1 hx).1
  have hpc' : (pc : Int) < (f.code.length : Int) := by omega
  obtain ⟨b0, off, hq, c0, c1⟩ := hv.code.look2 hB1 hx
  rw [hq] at o5
  unfold fnA
  rw [hq]
  have hBx := below2' w (.cells #[.string f.name, .int .i64 f.params, .int .i64 f.locals, .slice s.qc f.caps.length s.cc, .slice s.qk f.consts.length s.ck, .slice (some ⟨b0, off, none⟩) f.code.length s.ci, .slice s.ql f.lines.length s.cl, .slice s.qh f.hs.length s.ch] 68) (.cells #[.int .u8 30, .int .i64 a] 120)
  rw [hq] at hb0 c0 c1
  clear hx hv hq hB1
  by_cases h1 : a = 0
  · obtain rfl : true = b := by rw [← hb]; simp [numberP]; omega
    subst h1
    clear hb
    go_enter Tryz.func195, Tryz.ntmps195
    go_wp2
    go_ret
    exact ⟨rfl, hBx⟩
  · obtain rfl : false = b := by rw [← hb]; simp [numberP]; omega
    have h1b : (a == 0) = false := by simpa using h1
    clear hb
    go_enter Tryz.func195, Tryz.ntmps195
    go_wp2
    go_ret
    exact ⟨rfl, hBx⟩

set_option maxRecDepth 20000 in
set_option maxHeartbeats 8000000 in
theorem number_0 (nf : Nat) (f : Fm) (s : Fs) (pc : Nat) (a : Int) (p : Option Addr) (c : Nat) (hv : FnAt w f s) (hx : f.code[pc]? = some ⟨0, a⟩) (hl : f.code.length ≤ 1048576) (b : Bool) (hb : numberP nf f pc ⟨0, a⟩ = b) :
    Calls Tryz.prog 195 #[.slice p nf c, fnA f s, .int .i64 pc] w fun e w' => e = .returned (.bool b) ∧ Below w.heap.size w w' := by
  have hb0 := heap_alloc_new w (.cells #[.string f.name, .int .i64 f.params, .int .i64 f.locals, .slice s.qc f.caps.length s.cc, .slice s.qk f.consts.length s.ck, .slice s.qi f.code.length s.ci, .slice s.ql f.lines.length s.cl, .slice s.qh f.hs.length s.ch] 68)
  have hB1 := below1 w (.cells #[.string f.name, .int .i64 f.params, .int .i64 f.locals, .slice s.qc f.caps.length s.cc, .slice s.qk f.consts.length s.ck, .slice s.qi f.code.length s.ci, .slice s.ql f.lines.length s.cl, .slice s.qh f.hs.length s.ch] 68)
  obtain ⟨⟨o0, o1, o2, o3, o4, o5, o6, o7⟩, -⟩ := cell_row8 hb0
  have hpc := (List.getElem?_eq_some_iff.1 hx).1
  have hpc' : (pc : Int) < (f.code.length : Int) := by omega
  obtain ⟨b0, off, hq, c0, c1⟩ := hv.code.look2 hB1 hx
  rw [hq] at o5
  unfold fnA
  rw [hq]
  have hBx := below2' w (.cells #[.string f.name, .int .i64 f.params, .int .i64 f.locals, .slice s.qc f.caps.length s.cc, .slice s.qk f.consts.length s.ck, .slice (some ⟨b0, off, none⟩) f.code.length s.ci, .slice s.ql f.lines.length s.cl, .slice s.qh f.hs.length s.ch] 68) (.cells #[.int .u8 0, .int .i64 a] 120)
  rw [hq] at hb0 c0 c1
  clear hx hv hq hB1
  obtain rfl : false = b := by rw [← hb]; simp [numberP]
  clear hb
  go_enter Tryz.func195, Tryz.ntmps195
  go_wp2
  go_ret
  exact ⟨rfl, hBx⟩

set_option maxRecDepth 20000 in
set_option maxHeartbeats 8000000 in
theorem number_big (nf : Nat) (f : Fm) (s : Fs) (pc : Nat) (a : Int) (p : Option Addr) (c : Nat) (k : Nat) (hk : 31 ≤ k) (hv : FnAt w f s) (hx : f.code[pc]? = some ⟨k, a⟩) (hl : f.code.length ≤ 1048576) (b : Bool) (hb : numberP nf f pc ⟨k, a⟩ = b) :
    Calls Tryz.prog 195 #[.slice p nf c, fnA f s, .int .i64 pc] w fun e w' => e = .returned (.bool b) ∧ Below w.heap.size w w' := by
  have hb0 := heap_alloc_new w (.cells #[.string f.name, .int .i64 f.params, .int .i64 f.locals, .slice s.qc f.caps.length s.cc, .slice s.qk f.consts.length s.ck, .slice s.qi f.code.length s.ci, .slice s.ql f.lines.length s.cl, .slice s.qh f.hs.length s.ch] 68)
  have hB1 := below1 w (.cells #[.string f.name, .int .i64 f.params, .int .i64 f.locals, .slice s.qc f.caps.length s.cc, .slice s.qk f.consts.length s.ck, .slice s.qi f.code.length s.ci, .slice s.ql f.lines.length s.cl, .slice s.qh f.hs.length s.ch] 68)
  obtain ⟨⟨o0, o1, o2, o3, o4, o5, o6, o7⟩, -⟩ := cell_row8 hb0
  have hpc := (List.getElem?_eq_some_iff.1 hx).1
  have hpc' : (pc : Int) < (f.code.length : Int) := by omega
  obtain ⟨b0, off, hq, c0, c1⟩ := hv.code.look2 hB1 hx
  rw [hq] at o5
  unfold fnA
  rw [hq]
  have hBx := below2' w (.cells #[.string f.name, .int .i64 f.params, .int .i64 f.locals, .slice s.qc f.caps.length s.cc, .slice s.qk f.consts.length s.ck, .slice (some ⟨b0, off, none⟩) f.code.length s.ci, .slice s.ql f.lines.length s.cl, .slice s.qh f.hs.length s.ch] 68) (.cells #[.int .u8 k, .int .i64 a] 120)
  rw [hq] at hb0 c0 c1
  clear hx hv hq hB1
  obtain rfl : false = b := by
    rw [← hb]
    unfold numberP
    repeat rw [if_neg (by simp only; omega)]
    simp; omega
  have n1 : ((k : Int) == 1) = false := by simp; omega
  have n2 : ((k : Int) == 2) = false := by simp; omega
  have n3 : ((k : Int) == 3) = false := by simp; omega
  have n4 : ((k : Int) == 4) = false := by simp; omega
  have n5 : ((k : Int) == 5) = false := by simp; omega
  have n6 : ((k : Int) == 6) = false := by simp; omega
  have n7 : ((k : Int) == 7) = false := by simp; omega
  have n8 : ((k : Int) == 8) = false := by simp; omega
  have n9 : ((k : Int) == 9) = false := by simp; omega
  have n10 : ((k : Int) == 10) = false := by simp; omega
  have n11 : ((k : Int) == 11) = false := by simp; omega
  have n12 : ((k : Int) == 12) = false := by simp; omega
  have n13 : ((k : Int) == 13) = false := by simp; omega
  have n14 : ((k : Int) == 14) = false := by simp; omega
  have n15 : ((k : Int) == 15) = false := by simp; omega
  have n16 : ((k : Int) == 16) = false := by simp; omega
  have n17 : ((k : Int) == 17) = false := by simp; omega
  have n18 : ((k : Int) == 18) = false := by simp; omega
  have n19 : ((k : Int) == 19) = false := by simp; omega
  have n20 : ((k : Int) == 20) = false := by simp; omega
  have n21 : ((k : Int) == 21) = false := by simp; omega
  have n22 : ((k : Int) == 22) = false := by simp; omega
  have n23 : ((k : Int) == 23) = false := by simp; omega
  have n24 : ((k : Int) == 24) = false := by simp; omega
  have n25 : ((k : Int) == 25) = false := by simp; omega
  have n26 : ((k : Int) == 26) = false := by simp; omega
  have n27 : ((k : Int) == 27) = false := by simp; omega
  have n28 : ((k : Int) == 28) = false := by simp; omega
  have n29 : ((k : Int) == 29) = false := by simp; omega
  have n30 : ((k : Int) == 30) = false := by simp; omega
  have nb : ¬ ((k : Int) ≤ 30) := by omega
  have np : (0 : Int) < (k : Int) := by omega
  clear hb
  go_enter Tryz.func195, Tryz.ntmps195
  go_wp2
  go_ret
  exact ⟨rfl, hBx⟩

theorem number_in (nf : Nat) (f : Fm) (s : Fs) (pc : Nat) (i : In) (p : Option Addr) (c : Nat) (hv : FnAt w f s) (hx : f.code[pc]? = some i) (hl : f.code.length ≤ 1048576) :
    Calls Tryz.prog 195 #[.slice p nf c, fnA f s, .int .i64 pc] w fun e w' => e = .returned (.bool (numberP nf f pc i)) ∧ Below w.heap.size w w' := by
  obtain ⟨k, a⟩ := i
  have hk : k = 0 ∨ k = 1 ∨ k = 2 ∨ k = 3 ∨ k = 4 ∨ k = 5 ∨ k = 6 ∨ k = 7 ∨ k = 8 ∨ k = 9 ∨ k = 10 ∨ k = 11 ∨ k = 12 ∨ k = 13 ∨ k = 14 ∨ k = 15 ∨ k = 16 ∨ k = 17 ∨ k = 18 ∨ k = 19 ∨ k = 20 ∨ k = 21 ∨ k = 22 ∨ k = 23 ∨ k = 24 ∨ k = 25 ∨ k = 26 ∨ k = 27 ∨ k = 28 ∨ k = 29 ∨ k = 30 ∨ 31 ≤ k := by omega
  rcases hk with rfl | rfl | rfl | rfl | rfl | rfl | rfl | rfl | rfl | rfl | rfl | rfl | rfl | rfl | rfl | rfl | rfl | rfl | rfl | rfl | rfl | rfl | rfl | rfl | rfl | rfl | rfl | rfl | rfl | rfl | rfl | hk
  · exact number_0 nf f s pc a p c hv hx hl _ rfl
  · exact number_1 nf f s pc a p c hv hx hl _ rfl
  · exact number_2 nf f s pc a p c hv hx hl _ rfl
  · exact number_3 nf f s pc a p c hv hx hl _ rfl
  · exact number_4 nf f s pc a p c hv hx hl _ rfl
  · exact number_5 nf f s pc a p c hv hx hl _ rfl
  · exact number_6 nf f s pc a p c hv hx hl _ rfl
  · exact number_7 nf f s pc a p c hv hx hl _ rfl
  · exact number_8 nf f s pc a p c hv hx hl _ rfl
  · exact number_9 nf f s pc a p c hv hx hl _ rfl
  · exact number_10 nf f s pc a p c hv hx hl _ rfl
  · exact number_11 nf f s pc a p c hv hx hl _ rfl
  · exact number_12 nf f s pc a p c hv hx hl _ rfl
  · exact number_13 nf f s pc a p c hv hx hl _ rfl
  · exact number_14 nf f s pc a p c hv hx hl _ rfl
  · exact number_15 nf f s pc a p c hv hx hl _ rfl
  · exact number_16 nf f s pc a p c hv hx hl _ rfl
  · exact number_17 nf f s pc a p c hv hx hl _ rfl
  · exact number_18 nf f s pc a p c hv hx hl _ rfl
  · exact number_19 nf f s pc a p c hv hx hl _ rfl
  · exact number_20 nf f s pc a p c hv hx hl _ rfl
  · exact number_21 nf f s pc a p c hv hx hl _ rfl
  · exact number_22 nf f s pc a p c hv hx hl _ rfl
  · exact number_23 nf f s pc a p c hv hx hl _ rfl
  · exact number_24 nf f s pc a p c hv hx hl _ rfl
  · exact number_25 nf f s pc a p c hv hx hl _ rfl
  · exact number_26 nf f s pc a p c hv hx hl _ rfl
  · exact number_27 nf f s pc a p c hv hx hl _ rfl
  · exact number_28 nf f s pc a p c hv hx hl _ rfl
  · exact number_29 nf f s pc a p c hv hx hl _ rfl
  · exact number_30 nf f s pc a p c hv hx hl _ rfl
  · exact number_big nf f s pc a p c k hk hv hx hl _ rfl

end Go.Proofs.YtpjgdbeekmoedaaGreatDoor
