/- gearboxlaw01's Same of a function's lists. -/
import Derived.Test.YtnekcomkochmjaaGreatDoorVfMem
import Derived.Test.YtnekcomkochmjaaGreatDoorVfTwin
import Derived.BigQuiet
import Derived.Deep.RegionLaw
import Derived.Laws.StructEq
import Derived.Test.YtnekcomkochmjaaGreatDoorVfFns
import Derived.Test.YtnekcomkochmjaaGreatDoorVfGreat
namespace Go.Proofs.YtnekcomkochmjaaGreatDoor
set_option linter.unusedVariables false
set_option linter.unusedSimpArgs false
open Go.RowKit

variable {w : World}

theorem bytes_ne {s t : ByteArray} (h : ¬ s = t) : ¬ s.toList = t.toList ∧ (s.toList == t.toList) = false := by
  have h1 : ¬ s.toList = t.toList := fun e => by
    rw [ByteArray.toList_eq, ByteArray.toList_eq] at e
    obtain ⟨⟨x⟩⟩ := s
    obtain ⟨⟨y⟩⟩ := t
    simp only at e
    subst e
    exact h rfl
  exact ⟨h1, by simpa using h1⟩

theorem take_step {α : Type} {l m : List α} {j : Nat} {x : α} (h : l.take j = m.take j) (hx : l[j]? = some x) (hy : m[j]? = some x) : l.take (j + 1) = m.take (j + 1) := by
  rw [List.take_add_one, List.take_add_one, h, hx, hy]

theorem take_end {α : Type} {l m : List α} {j : Nat} (h : l.take j = m.take j) (hl : l.length ≤ j) (hm : m.length ≤ j) : l = m := by
  rwa [List.take_of_length_le hl, List.take_of_length_le hm] at h

theorem at_ne {α : Type} {l m : List α} {j : Nat} {x y : α} (hx : l[j]? = some x) (hy : m[j]? = some y) (h : ¬ x = y) : ¬ l = m := fun e => by
  rw [e, hy] at hx
  cases hx
  exact h rfl

set_option maxRecDepth 20000 in
set_option maxHeartbeats 4000000 in
theorem sameCaps_in {p q : Option Addr} {l m : List Cp} (c d : Nat) (h1 : RowAt capC 2 w p l) (h2 : RowAt capC 2 w q m) (hl : l.length ≤ 1048576) :
    Calls Tryz.prog 72 #[.slice p l.length c, .slice q m.length d] w fun e w' => ∃ b, e = .returned (.bool b) ∧ (b = true ↔ l = m) ∧ Below w.heap.size w w' := by
  by_cases hlen : l.length = m.length
  · have hml : m.length ≤ l.length := by omega
    have HLM : Hid (l.length ≤ m.length) := (by omega : l.length ≤ m.length)
    rw [← hlen]
    clear hlen
    go_enter Tryz.func72, Tryz.ntmps72
    go_wp2
    go_loopw [5] (fun k wr => ∃ j : Nat, k = .int .i64 j ∧ j ≤ l.length ∧ l.take j = m.take j ∧ Below w.heap.size w wr) (fun k _ => l.length - (intOf k).toNat)
    case atStart => exact ⟨0, rfl, by omega, by simp, Below.refl _ _⟩
    case round =>
      obtain ⟨j, rfl, hj, htk, hB⟩ := hrel
      have HTK : Hid _ := htk
      clear htk
      by_cases hjn : j < l.length
      · by_cases hjm : j < m.length
        · obtain ⟨x, hx⟩ : ∃ x, l[j]? = some x := ⟨l[j], by simp⟩
          obtain ⟨y, hy⟩ : ∃ y, m[j]? = some y := ⟨m[j], by simp⟩
          obtain ⟨b0, off, rfl, c0, c1⟩ := h1.lookC hB hx
          obtain ⟨b1, of1, rfl, d0, d1⟩ := h2.lookC hB hy
          have hjn' : (j : Int) < (l.length : Int) := by omega
          by_cases hxy : x = y
          · subst hxy
            have HST : Hid _ := take_step HTK.out hx hy
            clear hx hy
            go_wp2
            go_quiet (fail)
            go_wp2
            go_roundw
            case rel => exact ⟨j + 1, by simp, by omega, HST.out, below_drewN' hB _⟩
            case measure => simp [intOf]; omega
          · have HNE : Hid _ := at_ne hx hy hxy
            clear hx hy
            obtain ⟨up1, n1⟩ := x
            obtain ⟨up2, n2⟩ := y
            simp only at c0 d0 c1 d1
            by_cases qup : up1 = up2
            · subst qup
              by_cases qn : n1 = n2
              · exact absurd (by subst qn; rfl) hxy
              · clear hxy
                go_wp2
                go_quiet (fail)
                go_wp2
                go_ret
                exact ⟨false, rfl, by simp; exact HNE.out, below_drewN' hB _⟩
            · cases up1 <;> cases up2
              · exact absurd rfl qup
              · go_wp2
                go_quiet (fail)
                go_wp2
                go_ret
                exact ⟨false, rfl, by simp; exact HNE.out, below_drewN' hB _⟩
              · go_wp2
                go_quiet (fail)
                go_wp2
                go_ret
                exact ⟨false, rfl, by simp; exact HNE.out, below_drewN' hB _⟩
              · exact absurd rfl qup
        · exact absurd HLM.out (by omega)
      · have hjn' : ¬ ((j : Int) < (l.length : Int)) := by omega
        go_wp2
        go_ret
        have hLM := HLM.out
        exact .inr ⟨rfl, take_end HTK.out (by omega) (by omega), hB⟩
  · have hq : ¬ ((l.length : Int) = (m.length : Int)) := by omega
    go_enter Tryz.func72, Tryz.ntmps72
    go_wp2
    go_ret
    exact ⟨false, rfl, by simp; exact fun e => hlen (by rw [e]), Below.refl _ _⟩

set_option maxRecDepth 20000 in
set_option maxHeartbeats 4000000 in
theorem sameConsts_in {p q : Option Addr} {l m : List Ck} (c d : Nat) (h1 : RowAt conC 3 w p l) (h2 : RowAt conC 3 w q m) (hl : l.length ≤ 1048576) :
    Calls Tryz.prog 73 #[.slice p l.length c, .slice q m.length d] w fun e w' => ∃ b, e = .returned (.bool b) ∧ (b = true ↔ l = m) ∧ Below w.heap.size w w' := by
  by_cases hlen : l.length = m.length
  · have hml : m.length ≤ l.length := by omega
    have HLM : Hid (l.length ≤ m.length) := (by omega : l.length ≤ m.length)
    rw [← hlen]
    clear hlen
    go_enter Tryz.func73, Tryz.ntmps73
    go_wp2
    go_loopw [5] (fun k wr => ∃ j : Nat, k = .int .i64 j ∧ j ≤ l.length ∧ l.take j = m.take j ∧ Below w.heap.size w wr) (fun k _ => l.length - (intOf k).toNat)
    case atStart => exact ⟨0, rfl, by omega, by simp, Below.refl _ _⟩
    case round =>
      obtain ⟨j, rfl, hj, htk, hB⟩ := hrel
      have HTK : Hid _ := htk
      clear htk
      by_cases hjn : j < l.length
      · by_cases hjm : j < m.length
        · obtain ⟨x, hx⟩ : ∃ x, l[j]? = some x := ⟨l[j], by simp⟩
          obtain ⟨y, hy⟩ : ∃ y, m[j]? = some y := ⟨m[j], by simp⟩
          obtain ⟨b0, off, rfl, c0, c1, c2⟩ := h1.lookK hB hx
          obtain ⟨b1, of1, rfl, d0, d1, d2⟩ := h2.lookK hB hy
          have hjn' : (j : Int) < (l.length : Int) := by omega
          by_cases hxy : x = y
          · subst hxy
            have HST : Hid _ := take_step HTK.out hx hy
            clear hx hy
            go_wp2
            go_quiet (fail)
            go_wp2
            go_roundw
            case rel => exact ⟨j + 1, by simp, by omega, HST.out, below_drewN' hB _⟩
            case measure => simp [intOf]; omega
          · have HNE : Hid _ := at_ne hx hy hxy
            clear hx hy
            obtain ⟨k1, n1, s1⟩ := x
            obtain ⟨k2, n2, s2⟩ := y
            simp only at c0 d0 c1 d1 c2 d2
            by_cases qk : k1 = k2
            · subst qk
              by_cases qn : n1 = n2
              · subst qn
                by_cases qs : s1 = s2
                · exact absurd (by subst qs; rfl) hxy
                · obtain ⟨zs, z2s⟩ := bytes_ne qs
                  clear hxy
                  go_wp2
                  go_quiet (fail)
                  go_wp2
                  go_ret
                  exact ⟨false, rfl, by simp; exact HNE.out, below_drewN' hB _⟩
              · clear hxy
                go_wp2
                go_quiet (fail)
                go_wp2
                go_ret
                exact ⟨false, rfl, by simp; exact HNE.out, below_drewN' hB _⟩
            · have zk : ¬ ((k1 : Int) = (k2 : Int)) := by omega
              clear hxy
              go_wp2
              go_quiet (fail)
              go_wp2
              go_ret
              exact ⟨false, rfl, by simp; exact HNE.out, below_drewN' hB _⟩
        · exact absurd HLM.out (by omega)
      · have hjn' : ¬ ((j : Int) < (l.length : Int)) := by omega
        go_wp2
        go_ret
        have hLM := HLM.out
        exact .inr ⟨rfl, take_end HTK.out (by omega) (by omega), hB⟩
  · have hq : ¬ ((l.length : Int) = (m.length : Int)) := by omega
    go_enter Tryz.func73, Tryz.ntmps73
    go_wp2
    go_ret
    exact ⟨false, rfl, by simp; exact fun e => hlen (by rw [e]), Below.refl _ _⟩

set_option maxRecDepth 20000 in
set_option maxHeartbeats 4000000 in
theorem sameInses_in {p q : Option Addr} {l m : List In} (c d : Nat) (h1 : RowAt insC 2 w p l) (h2 : RowAt insC 2 w q m) (hl : l.length ≤ 1048576) :
    Calls Tryz.prog 74 #[.slice p l.length c, .slice q m.length d] w fun e w' => ∃ b, e = .returned (.bool b) ∧ (b = true ↔ l = m) ∧ Below w.heap.size w w' := by
  by_cases hlen : l.length = m.length
  · have hml : m.length ≤ l.length := by omega
    have HLM : Hid (l.length ≤ m.length) := (by omega : l.length ≤ m.length)
    rw [← hlen]
    clear hlen
    go_enter Tryz.func74, Tryz.ntmps74
    go_wp2
    go_loopw [5] (fun k wr => ∃ j : Nat, k = .int .i64 j ∧ j ≤ l.length ∧ l.take j = m.take j ∧ Below w.heap.size w wr) (fun k _ => l.length - (intOf k).toNat)
    case atStart => exact ⟨0, rfl, by omega, by simp, Below.refl _ _⟩
    case round =>
      obtain ⟨j, rfl, hj, htk, hB⟩ := hrel
      have HTK : Hid _ := htk
      clear htk
      by_cases hjn : j < l.length
      · by_cases hjm : j < m.length
        · obtain ⟨x, hx⟩ : ∃ x, l[j]? = some x := ⟨l[j], by simp⟩
          obtain ⟨y, hy⟩ : ∃ y, m[j]? = some y := ⟨m[j], by simp⟩
          obtain ⟨b0, off, rfl, c0, c1⟩ := h1.look2 hB hx
          obtain ⟨b1, of1, rfl, d0, d1⟩ := h2.look2 hB hy
          have hjn' : (j : Int) < (l.length : Int) := by omega
          by_cases hxy : x = y
          · subst hxy
            have HST : Hid _ := take_step HTK.out hx hy
            clear hx hy
            go_wp2
            go_quiet (fail)
            go_wp2
            go_roundw
            case rel => exact ⟨j + 1, by simp, by omega, HST.out, below_drewN' hB _⟩
            case measure => simp [intOf]; omega
          · have HNE : Hid _ := at_ne hx hy hxy
            clear hx hy
            obtain ⟨op1, a1⟩ := x
            obtain ⟨op2, a2⟩ := y
            simp only at c0 d0 c1 d1
            by_cases qop : op1 = op2
            · subst qop
              by_cases qa : a1 = a2
              · exact absurd (by subst qa; rfl) hxy
              · clear hxy
                go_wp2
                go_quiet (fail)
                go_wp2
                go_ret
                exact ⟨false, rfl, by simp; exact HNE.out, below_drewN' hB _⟩
            · have zop : ¬ ((op1 : Int) = (op2 : Int)) := by omega
              clear hxy
              go_wp2
              go_quiet (fail)
              go_wp2
              go_ret
              exact ⟨false, rfl, by simp; exact HNE.out, below_drewN' hB _⟩
        · exact absurd HLM.out (by omega)
      · have hjn' : ¬ ((j : Int) < (l.length : Int)) := by omega
        go_wp2
        go_ret
        have hLM := HLM.out
        exact .inr ⟨rfl, take_end HTK.out (by omega) (by omega), hB⟩
  · have hq : ¬ ((l.length : Int) = (m.length : Int)) := by omega
    go_enter Tryz.func74, Tryz.ntmps74
    go_wp2
    go_ret
    exact ⟨false, rfl, by simp; exact fun e => hlen (by rw [e]), Below.refl _ _⟩

set_option maxRecDepth 20000 in
set_option maxHeartbeats 4000000 in
theorem sameInts_in {p q : Option Addr} {l m : List Int} (c d : Nat) (h1 : RowAt linC 1 w p l) (h2 : RowAt linC 1 w q m) (hl : l.length ≤ 1048576) :
    Calls Tryz.prog 75 #[.slice p l.length c, .slice q m.length d] w fun e w' => ∃ b, e = .returned (.bool b) ∧ (b = true ↔ l = m) ∧ Below w.heap.size w w' := by
  by_cases hlen : l.length = m.length
  · have hml : m.length ≤ l.length := by omega
    have HLM : Hid (l.length ≤ m.length) := (by omega : l.length ≤ m.length)
    rw [← hlen]
    clear hlen
    go_enter Tryz.func75, Tryz.ntmps75
    go_wp2
    go_loopw [5] (fun k wr => ∃ j : Nat, k = .int .i64 j ∧ j ≤ l.length ∧ l.take j = m.take j ∧ Below w.heap.size w wr) (fun k _ => l.length - (intOf k).toNat)
    case atStart => exact ⟨0, rfl, by omega, by simp, Below.refl _ _⟩
    case round =>
      obtain ⟨j, rfl, hj, htk, hB⟩ := hrel
      have HTK : Hid _ := htk
      clear htk
      by_cases hjn : j < l.length
      · by_cases hjm : j < m.length
        · obtain ⟨x, hx⟩ : ∃ x, l[j]? = some x := ⟨l[j], by simp⟩
          obtain ⟨y, hy⟩ : ∃ y, m[j]? = some y := ⟨m[j], by simp⟩
          obtain ⟨b0, off, rfl, c0⟩ := h1.lookL hB hx
          obtain ⟨b1, of1, rfl, d0⟩ := h2.lookL hB hy
          have hjn' : (j : Int) < (l.length : Int) := by omega
          by_cases hxy : x = y
          · subst hxy
            have HST : Hid _ := take_step HTK.out hx hy
            clear hx hy
            go_wp2
            go_quiet (fail)
            go_wp2
            go_roundw
            case rel => exact ⟨j + 1, by simp, by omega, HST.out, below_drewN' hB _⟩
            case measure => simp [intOf]; omega
          · have HNE : Hid _ := at_ne hx hy hxy
            clear hx hy
            go_wp2
            go_quiet (fail)
            go_wp2
            go_ret
            exact ⟨false, rfl, by simp; exact HNE.out, below_drewN' hB _⟩
        · exact absurd HLM.out (by omega)
      · have hjn' : ¬ ((j : Int) < (l.length : Int)) := by omega
        go_wp2
        go_ret
        have hLM := HLM.out
        exact .inr ⟨rfl, take_end HTK.out (by omega) (by omega), hB⟩
  · have hq : ¬ ((l.length : Int) = (m.length : Int)) := by omega
    go_enter Tryz.func75, Tryz.ntmps75
    go_wp2
    go_ret
    exact ⟨false, rfl, by simp; exact fun e => hlen (by rw [e]), Below.refl _ _⟩

set_option maxRecDepth 20000 in
set_option maxHeartbeats 4000000 in
theorem sameHandlers_in {p q : Option Addr} {l m : List Hn} (c d : Nat) (h1 : RowAt hanC 4 w p l) (h2 : RowAt hanC 4 w q m) (hl : l.length ≤ 1048576) :
    Calls Tryz.prog 76 #[.slice p l.length c, .slice q m.length d] w fun e w' => ∃ b, e = .returned (.bool b) ∧ (b = true ↔ l = m) ∧ Below w.heap.size w w' := by
  by_cases hlen : l.length = m.length
  · have hml : m.length ≤ l.length := by omega
    have HLM : Hid (l.length ≤ m.length) := (by omega : l.length ≤ m.length)
    rw [← hlen]
    clear hlen
    go_enter Tryz.func76, Tryz.ntmps76
    go_wp2
    go_loopw [5] (fun k wr => ∃ j : Nat, k = .int .i64 j ∧ j ≤ l.length ∧ l.take j = m.take j ∧ Below w.heap.size w wr) (fun k _ => l.length - (intOf k).toNat)
    case atStart => exact ⟨0, rfl, by omega, by simp, Below.refl _ _⟩
    case round =>
      obtain ⟨j, rfl, hj, htk, hB⟩ := hrel
      have HTK : Hid _ := htk
      clear htk
      by_cases hjn : j < l.length
      · by_cases hjm : j < m.length
        · obtain ⟨x, hx⟩ : ∃ x, l[j]? = some x := ⟨l[j], by simp⟩
          obtain ⟨y, hy⟩ : ∃ y, m[j]? = some y := ⟨m[j], by simp⟩
          obtain ⟨b0, off, rfl, c0, c1, c2, c3⟩ := h1.lookH hB hx
          obtain ⟨b1, of1, rfl, d0, d1, d2, d3⟩ := h2.lookH hB hy
          have hjn' : (j : Int) < (l.length : Int) := by omega
          by_cases hxy : x = y
          · subst hxy
            have HST : Hid _ := take_step HTK.out hx hy
            clear hx hy
            go_wp2
            go_quiet (fail)
            go_wp2
            go_roundw
            case rel => exact ⟨j + 1, by simp, by omega, HST.out, below_drewN' hB _⟩
            case measure => simp [intOf]; omega
          · have HNE : Hid _ := at_ne hx hy hxy
            clear hx hy
            obtain ⟨fr1, to1, at_1, deep1⟩ := x
            obtain ⟨fr2, to2, at_2, deep2⟩ := y
            simp only at c0 d0 c1 d1 c2 d2 c3 d3
            by_cases qfr : fr1 = fr2
            · subst qfr
              by_cases qto : to1 = to2
              · subst qto
                by_cases qat_ : at_1 = at_2
                · subst qat_
                  by_cases qdeep : deep1 = deep2
                  · exact absurd (by subst qdeep; rfl) hxy
                  · clear hxy
                    go_wp2
                    go_quiet (fail)
                    go_wp2
                    go_ret
                    exact ⟨false, rfl, by simp; exact HNE.out, below_drewN' hB _⟩
                · clear hxy
                  go_wp2
                  go_quiet (fail)
                  go_wp2
                  go_ret
                  exact ⟨false, rfl, by simp; exact HNE.out, below_drewN' hB _⟩
              · clear hxy
                go_wp2
                go_quiet (fail)
                go_wp2
                go_ret
                exact ⟨false, rfl, by simp; exact HNE.out, below_drewN' hB _⟩
            · clear hxy
              go_wp2
              go_quiet (fail)
              go_wp2
              go_ret
              exact ⟨false, rfl, by simp; exact HNE.out, below_drewN' hB _⟩
        · exact absurd HLM.out (by omega)
      · have hjn' : ¬ ((j : Int) < (l.length : Int)) := by omega
        go_wp2
        go_ret
        have hLM := HLM.out
        exact .inr ⟨rfl, take_end HTK.out (by omega) (by omega), hB⟩
  · have hq : ¬ ((l.length : Int) = (m.length : Int)) := by omega
    go_enter Tryz.func76, Tryz.ntmps76
    go_wp2
    go_ret
    exact ⟨false, rfl, by simp; exact fun e => hlen (by rw [e]), Below.refl _ _⟩

end Go.Proofs.YtnekcomkochmjaaGreatDoor

namespace Go.Proofs.YtnekcomkochmjaaGreatDoor
set_option linter.unusedVariables false
set_option linter.unusedSimpArgs false
open Go.RowKit

variable {w : World}

theorem known {P : Program} {F : FuncId} {a : Array Value} {W : World} {X : Prop} {B : World → Prop} (H : Calls P F a W fun e w' => ∃ b, e = .returned (.bool b) ∧ (b = true ↔ X) ∧ B w') (r : Bool) (hr : r = true ↔ X) :
    Calls P F a W fun e w' => e = .returned (.bool r) ∧ B w' := H.mono fun e w' ⟨b, e1, e2, e3⟩ => ⟨by rw [e1]; congr 2; rw [Bool.eq_iff_iff, e2, hr], e3⟩

set_option maxRecDepth 20000 in
set_option maxHeartbeats 4000000 in
theorem sameFn_0 (f g : Fm) (s t : Fs) (hv : FnAt w f s) (hu : FnAt w g t) (hl : Small f) (n0 : ¬ f.name = g.name) :
    Calls Tryz.prog 36 #[fnA f s, fnA g t] w fun e w' => e = .returned (.bool false) ∧ Below w.heap.size w w' := by
  obtain ⟨a0, a1, a2, a3, a4, a5, a6, a7⟩ := f
  obtain ⟨b0, b1, b2, b3, b4, b5, b6, b7⟩ := g
  simp only at n0
  unfold fnA
  have hB2 := below2' w (.cells #[.string a0, .int .i64 a1, .int .i64 a2, .slice s.qc a3.length s.cc, .slice s.qk a4.length s.ck, .slice s.qi a5.length s.ci, .slice s.ql a6.length s.cl, .slice s.qh a7.length s.ch] 45) (.cells #[.string b0, .int .i64 b1, .int .i64 b2, .slice t.qc b3.length t.cc, .slice t.qk b4.length t.ck, .slice t.qi b5.length t.ci, .slice t.ql b6.length t.cl, .slice t.qh b7.length t.ch] 45)
  have hb0 := (Below.heap_alloc (w.alloc (.cells #[.string a0, .int .i64 a1, .int .i64 a2, .slice s.qc a3.length s.cc, .slice s.qk a4.length s.ck, .slice s.qi a5.length s.ci, .slice s.ql a6.length s.cl, .slice s.qh a7.length s.ch] 45)) (.cells #[.string b0, .int .i64 b1, .int .i64 b2, .slice t.qc b3.length t.cc, .slice t.qk b4.length t.ck, .slice t.qi b5.length t.ci, .slice t.ql b6.length t.cl, .slice t.qh b7.length t.ch] 45) w.heap.size (by simp)).trans (heap_alloc_new w (.cells #[.string a0, .int .i64 a1, .int .i64 a2, .slice s.qc a3.length s.cc, .slice s.qk a4.length s.ck, .slice s.qi a5.length s.ci, .slice s.ql a6.length s.cl, .slice s.qh a7.length s.ch] 45))
  have hb1 := heap_two w (.cells #[.string a0, .int .i64 a1, .int .i64 a2, .slice s.qc a3.length s.cc, .slice s.qk a4.length s.ck, .slice s.qi a5.length s.ci, .slice s.ql a6.length s.cl, .slice s.qh a7.length s.ch] 45) (.cells #[.string b0, .int .i64 b1, .int .i64 b2, .slice t.qc b3.length t.cc, .slice t.qk b4.length t.ck, .slice t.qi b5.length t.ci, .slice t.ql b6.length t.cl, .slice t.qh b7.length t.ch] 45)
  have hsz : ((w.alloc (.cells #[.string a0, .int .i64 a1, .int .i64 a2, .slice s.qc a3.length s.cc, .slice s.qk a4.length s.ck, .slice s.qi a5.length s.ci, .slice s.ql a6.length s.cl, .slice s.qh a7.length s.ch] 45)).alloc (.cells #[.string b0, .int .i64 b1, .int .i64 b2, .slice t.qc b3.length t.cc, .slice t.qk b4.length t.ck, .slice t.qi b5.length t.ci, .slice t.ql b6.length t.cl, .slice t.qh b7.length t.ch] 45)).heap.size = w.heap.size + 2 := by simp
  obtain ⟨⟨o0, o1, o2, o3, o4, o5, o6, o7⟩, -⟩ := cell_row8 hb0
  obtain ⟨⟨p0, p1, p2, p3, p4, p5, p6, p7⟩, -⟩ := cell_row8 hb1
  clear hv hu hl
  obtain ⟨z0, z1⟩ := bytes_ne n0
  clear n0
  go_enter Tryz.func36, Tryz.ntmps36
  go_wp2
  go_ret
  exact ⟨rfl, hB2⟩

set_option maxRecDepth 20000 in
set_option maxHeartbeats 4000000 in
theorem sameFn_1 (f g : Fm) (s t : Fs) (hv : FnAt w f s) (hu : FnAt w g t) (hl : Small f) (e0 : f.name = g.name) (n1 : ¬ f.params = g.params) :
    Calls Tryz.prog 36 #[fnA f s, fnA g t] w fun e w' => e = .returned (.bool false) ∧ Below w.heap.size w w' := by
  obtain ⟨a0, a1, a2, a3, a4, a5, a6, a7⟩ := f
  obtain ⟨b0, b1, b2, b3, b4, b5, b6, b7⟩ := g
  simp only at e0 n1
  subst e0
  unfold fnA
  have hB2 := below2' w (.cells #[.string a0, .int .i64 a1, .int .i64 a2, .slice s.qc a3.length s.cc, .slice s.qk a4.length s.ck, .slice s.qi a5.length s.ci, .slice s.ql a6.length s.cl, .slice s.qh a7.length s.ch] 45) (.cells #[.string a0, .int .i64 b1, .int .i64 b2, .slice t.qc b3.length t.cc, .slice t.qk b4.length t.ck, .slice t.qi b5.length t.ci, .slice t.ql b6.length t.cl, .slice t.qh b7.length t.ch] 45)
  have hb0 := (Below.heap_alloc (w.alloc (.cells #[.string a0, .int .i64 a1, .int .i64 a2, .slice s.qc a3.length s.cc, .slice s.qk a4.length s.ck, .slice s.qi a5.length s.ci, .slice s.ql a6.length s.cl, .slice s.qh a7.length s.ch] 45)) (.cells #[.string a0, .int .i64 b1, .int .i64 b2, .slice t.qc b3.length t.cc, .slice t.qk b4.length t.ck, .slice t.qi b5.length t.ci, .slice t.ql b6.length t.cl, .slice t.qh b7.length t.ch] 45) w.heap.size (by simp)).trans (heap_alloc_new w (.cells #[.string a0, .int .i64 a1, .int .i64 a2, .slice s.qc a3.length s.cc, .slice s.qk a4.length s.ck, .slice s.qi a5.length s.ci, .slice s.ql a6.length s.cl, .slice s.qh a7.length s.ch] 45))
  have hb1 := heap_two w (.cells #[.string a0, .int .i64 a1, .int .i64 a2, .slice s.qc a3.length s.cc, .slice s.qk a4.length s.ck, .slice s.qi a5.length s.ci, .slice s.ql a6.length s.cl, .slice s.qh a7.length s.ch] 45) (.cells #[.string a0, .int .i64 b1, .int .i64 b2, .slice t.qc b3.length t.cc, .slice t.qk b4.length t.ck, .slice t.qi b5.length t.ci, .slice t.ql b6.length t.cl, .slice t.qh b7.length t.ch] 45)
  have hsz : ((w.alloc (.cells #[.string a0, .int .i64 a1, .int .i64 a2, .slice s.qc a3.length s.cc, .slice s.qk a4.length s.ck, .slice s.qi a5.length s.ci, .slice s.ql a6.length s.cl, .slice s.qh a7.length s.ch] 45)).alloc (.cells #[.string a0, .int .i64 b1, .int .i64 b2, .slice t.qc b3.length t.cc, .slice t.qk b4.length t.ck, .slice t.qi b5.length t.ci, .slice t.ql b6.length t.cl, .slice t.qh b7.length t.ch] 45)).heap.size = w.heap.size + 2 := by simp
  obtain ⟨⟨o0, o1, o2, o3, o4, o5, o6, o7⟩, -⟩ := cell_row8 hb0
  obtain ⟨⟨p0, p1, p2, p3, p4, p5, p6, p7⟩, -⟩ := cell_row8 hb1
  clear hv hu hl
  go_enter Tryz.func36, Tryz.ntmps36
  go_wp2
  go_ret
  exact ⟨rfl, hB2⟩

set_option maxRecDepth 20000 in
set_option maxHeartbeats 4000000 in
theorem sameFn_2 (f g : Fm) (s t : Fs) (hv : FnAt w f s) (hu : FnAt w g t) (hl : Small f) (e0 : f.name = g.name) (e1 : f.params = g.params) (n2 : ¬ f.locals = g.locals) :
    Calls Tryz.prog 36 #[fnA f s, fnA g t] w fun e w' => e = .returned (.bool false) ∧ Below w.heap.size w w' := by
  obtain ⟨a0, a1, a2, a3, a4, a5, a6, a7⟩ := f
  obtain ⟨b0, b1, b2, b3, b4, b5, b6, b7⟩ := g
  simp only at e0 e1 n2
  subst e0
  subst e1
  unfold fnA
  have hB2 := below2' w (.cells #[.string a0, .int .i64 a1, .int .i64 a2, .slice s.qc a3.length s.cc, .slice s.qk a4.length s.ck, .slice s.qi a5.length s.ci, .slice s.ql a6.length s.cl, .slice s.qh a7.length s.ch] 45) (.cells #[.string a0, .int .i64 a1, .int .i64 b2, .slice t.qc b3.length t.cc, .slice t.qk b4.length t.ck, .slice t.qi b5.length t.ci, .slice t.ql b6.length t.cl, .slice t.qh b7.length t.ch] 45)
  have hb0 := (Below.heap_alloc (w.alloc (.cells #[.string a0, .int .i64 a1, .int .i64 a2, .slice s.qc a3.length s.cc, .slice s.qk a4.length s.ck, .slice s.qi a5.length s.ci, .slice s.ql a6.length s.cl, .slice s.qh a7.length s.ch] 45)) (.cells #[.string a0, .int .i64 a1, .int .i64 b2, .slice t.qc b3.length t.cc, .slice t.qk b4.length t.ck, .slice t.qi b5.length t.ci, .slice t.ql b6.length t.cl, .slice t.qh b7.length t.ch] 45) w.heap.size (by simp)).trans (heap_alloc_new w (.cells #[.string a0, .int .i64 a1, .int .i64 a2, .slice s.qc a3.length s.cc, .slice s.qk a4.length s.ck, .slice s.qi a5.length s.ci, .slice s.ql a6.length s.cl, .slice s.qh a7.length s.ch] 45))
  have hb1 := heap_two w (.cells #[.string a0, .int .i64 a1, .int .i64 a2, .slice s.qc a3.length s.cc, .slice s.qk a4.length s.ck, .slice s.qi a5.length s.ci, .slice s.ql a6.length s.cl, .slice s.qh a7.length s.ch] 45) (.cells #[.string a0, .int .i64 a1, .int .i64 b2, .slice t.qc b3.length t.cc, .slice t.qk b4.length t.ck, .slice t.qi b5.length t.ci, .slice t.ql b6.length t.cl, .slice t.qh b7.length t.ch] 45)
  have hsz : ((w.alloc (.cells #[.string a0, .int .i64 a1, .int .i64 a2, .slice s.qc a3.length s.cc, .slice s.qk a4.length s.ck, .slice s.qi a5.length s.ci, .slice s.ql a6.length s.cl, .slice s.qh a7.length s.ch] 45)).alloc (.cells #[.string a0, .int .i64 a1, .int .i64 b2, .slice t.qc b3.length t.cc, .slice t.qk b4.length t.ck, .slice t.qi b5.length t.ci, .slice t.ql b6.length t.cl, .slice t.qh b7.length t.ch] 45)).heap.size = w.heap.size + 2 := by simp
  obtain ⟨⟨o0, o1, o2, o3, o4, o5, o6, o7⟩, -⟩ := cell_row8 hb0
  obtain ⟨⟨p0, p1, p2, p3, p4, p5, p6, p7⟩, -⟩ := cell_row8 hb1
  clear hv hu hl
  go_enter Tryz.func36, Tryz.ntmps36
  go_wp2
  go_ret
  exact ⟨rfl, hB2⟩

set_option maxRecDepth 20000 in
set_option maxHeartbeats 4000000 in
theorem sameFn_3 (f g : Fm) (s t : Fs) (hv : FnAt w f s) (hu : FnAt w g t) (hl : Small f) (e0 : f.name = g.name) (e1 : f.params = g.params) (e2 : f.locals = g.locals) (n3 : ¬ f.caps = g.caps) :
    Calls Tryz.prog 36 #[fnA f s, fnA g t] w fun e w' => e = .returned (.bool false) ∧ Below w.heap.size w w' := by
  obtain ⟨a0, a1, a2, a3, a4, a5, a6, a7⟩ := f
  obtain ⟨b0, b1, b2, b3, b4, b5, b6, b7⟩ := g
  simp only at e0 e1 e2 n3
  subst e0
  subst e1
  subst e2
  unfold fnA
  have hB2 := below2' w (.cells #[.string a0, .int .i64 a1, .int .i64 a2, .slice s.qc a3.length s.cc, .slice s.qk a4.length s.ck, .slice s.qi a5.length s.ci, .slice s.ql a6.length s.cl, .slice s.qh a7.length s.ch] 45) (.cells #[.string a0, .int .i64 a1, .int .i64 a2, .slice t.qc b3.length t.cc, .slice t.qk b4.length t.ck, .slice t.qi b5.length t.ci, .slice t.ql b6.length t.cl, .slice t.qh b7.length t.ch] 45)
  have hb0 := (Below.heap_alloc (w.alloc (.cells #[.string a0, .int .i64 a1, .int .i64 a2, .slice s.qc a3.length s.cc, .slice s.qk a4.length s.ck, .slice s.qi a5.length s.ci, .slice s.ql a6.length s.cl, .slice s.qh a7.length s.ch] 45)) (.cells #[.string a0, .int .i64 a1, .int .i64 a2, .slice t.qc b3.length t.cc, .slice t.qk b4.length t.ck, .slice t.qi b5.length t.ci, .slice t.ql b6.length t.cl, .slice t.qh b7.length t.ch] 45) w.heap.size (by simp)).trans (heap_alloc_new w (.cells #[.string a0, .int .i64 a1, .int .i64 a2, .slice s.qc a3.length s.cc, .slice s.qk a4.length s.ck, .slice s.qi a5.length s.ci, .slice s.ql a6.length s.cl, .slice s.qh a7.length s.ch] 45))
  have hb1 := heap_two w (.cells #[.string a0, .int .i64 a1, .int .i64 a2, .slice s.qc a3.length s.cc, .slice s.qk a4.length s.ck, .slice s.qi a5.length s.ci, .slice s.ql a6.length s.cl, .slice s.qh a7.length s.ch] 45) (.cells #[.string a0, .int .i64 a1, .int .i64 a2, .slice t.qc b3.length t.cc, .slice t.qk b4.length t.ck, .slice t.qi b5.length t.ci, .slice t.ql b6.length t.cl, .slice t.qh b7.length t.ch] 45)
  have hsz : ((w.alloc (.cells #[.string a0, .int .i64 a1, .int .i64 a2, .slice s.qc a3.length s.cc, .slice s.qk a4.length s.ck, .slice s.qi a5.length s.ci, .slice s.ql a6.length s.cl, .slice s.qh a7.length s.ch] 45)).alloc (.cells #[.string a0, .int .i64 a1, .int .i64 a2, .slice t.qc b3.length t.cc, .slice t.qk b4.length t.ck, .slice t.qi b5.length t.ci, .slice t.ql b6.length t.cl, .slice t.qh b7.length t.ch] 45)).heap.size = w.heap.size + 2 := by simp
  have H0 := fun (W : World) (h : Below w.heap.size w W) => known (sameCaps_in s.cc t.cc (hv.caps.below h) (hu.caps.below h) hl.caps) false (by simp; exact n3)
  obtain ⟨⟨o0, o1, o2, o3, o4, o5, o6, o7⟩, -⟩ := cell_row8 hb0
  obtain ⟨⟨p0, p1, p2, p3, p4, p5, p6, p7⟩, -⟩ := cell_row8 hb1
  clear hv hu hl
  clear n3
  go_enter Tryz.func36, Tryz.ntmps36
  go_wp2_with (first
    | (go_at_call 72; (with_reducible refine (H0 _ hB2).mono ?_); rintro e w1 ⟨rfl, hB0_⟩; have m1 := (hB0_.block w.heap.size (by omega)).trans hb0; have q1 := (hB0_.block (w.heap.size + 1) (by omega)).trans hb1; have k1 := hB2.trans (hB0_.mono hB2.size); obtain ⟨⟨o1_0, o1_1, o1_2, o1_3, o1_4, o1_5, o1_6, o1_7⟩, -⟩ := cell_row8 m1; obtain ⟨⟨p1_0, p1_1, p1_2, p1_3, p1_4, p1_5, p1_6, p1_7⟩, -⟩ := cell_row8 q1)
    )
  go_ret
  exact ⟨rfl, k1⟩

set_option maxRecDepth 20000 in
set_option maxHeartbeats 4000000 in
theorem sameFn_4 (f g : Fm) (s t : Fs) (hv : FnAt w f s) (hu : FnAt w g t) (hl : Small f) (e0 : f.name = g.name) (e1 : f.params = g.params) (e2 : f.locals = g.locals) (e3 : f.caps = g.caps) (n4 : ¬ f.consts = g.consts) :
    Calls Tryz.prog 36 #[fnA f s, fnA g t] w fun e w' => e = .returned (.bool false) ∧ Below w.heap.size w w' := by
  obtain ⟨a0, a1, a2, a3, a4, a5, a6, a7⟩ := f
  obtain ⟨b0, b1, b2, b3, b4, b5, b6, b7⟩ := g
  simp only at e0 e1 e2 e3 n4
  subst e0
  subst e1
  subst e2
  subst e3
  unfold fnA
  have hB2 := below2' w (.cells #[.string a0, .int .i64 a1, .int .i64 a2, .slice s.qc a3.length s.cc, .slice s.qk a4.length s.ck, .slice s.qi a5.length s.ci, .slice s.ql a6.length s.cl, .slice s.qh a7.length s.ch] 45) (.cells #[.string a0, .int .i64 a1, .int .i64 a2, .slice t.qc a3.length t.cc, .slice t.qk b4.length t.ck, .slice t.qi b5.length t.ci, .slice t.ql b6.length t.cl, .slice t.qh b7.length t.ch] 45)
  have hb0 := (Below.heap_alloc (w.alloc (.cells #[.string a0, .int .i64 a1, .int .i64 a2, .slice s.qc a3.length s.cc, .slice s.qk a4.length s.ck, .slice s.qi a5.length s.ci, .slice s.ql a6.length s.cl, .slice s.qh a7.length s.ch] 45)) (.cells #[.string a0, .int .i64 a1, .int .i64 a2, .slice t.qc a3.length t.cc, .slice t.qk b4.length t.ck, .slice t.qi b5.length t.ci, .slice t.ql b6.length t.cl, .slice t.qh b7.length t.ch] 45) w.heap.size (by simp)).trans (heap_alloc_new w (.cells #[.string a0, .int .i64 a1, .int .i64 a2, .slice s.qc a3.length s.cc, .slice s.qk a4.length s.ck, .slice s.qi a5.length s.ci, .slice s.ql a6.length s.cl, .slice s.qh a7.length s.ch] 45))
  have hb1 := heap_two w (.cells #[.string a0, .int .i64 a1, .int .i64 a2, .slice s.qc a3.length s.cc, .slice s.qk a4.length s.ck, .slice s.qi a5.length s.ci, .slice s.ql a6.length s.cl, .slice s.qh a7.length s.ch] 45) (.cells #[.string a0, .int .i64 a1, .int .i64 a2, .slice t.qc a3.length t.cc, .slice t.qk b4.length t.ck, .slice t.qi b5.length t.ci, .slice t.ql b6.length t.cl, .slice t.qh b7.length t.ch] 45)
  have hsz : ((w.alloc (.cells #[.string a0, .int .i64 a1, .int .i64 a2, .slice s.qc a3.length s.cc, .slice s.qk a4.length s.ck, .slice s.qi a5.length s.ci, .slice s.ql a6.length s.cl, .slice s.qh a7.length s.ch] 45)).alloc (.cells #[.string a0, .int .i64 a1, .int .i64 a2, .slice t.qc a3.length t.cc, .slice t.qk b4.length t.ck, .slice t.qi b5.length t.ci, .slice t.ql b6.length t.cl, .slice t.qh b7.length t.ch] 45)).heap.size = w.heap.size + 2 := by simp
  have H0 := fun (W : World) (h : Below w.heap.size w W) => known (sameCaps_in s.cc t.cc (hv.caps.below h) (hu.caps.below h) hl.caps) true (by simp)
  have H1 := fun (W : World) (h : Below w.heap.size w W) => known (sameConsts_in s.ck t.ck (hv.consts.below h) (hu.consts.below h) hl.consts) false (by simp; exact n4)
  obtain ⟨⟨o0, o1, o2, o3, o4, o5, o6, o7⟩, -⟩ := cell_row8 hb0
  obtain ⟨⟨p0, p1, p2, p3, p4, p5, p6, p7⟩, -⟩ := cell_row8 hb1
  clear hv hu hl
  clear n4
  go_enter Tryz.func36, Tryz.ntmps36
  go_wp2_with (first
    | (go_at_call 72; (with_reducible refine (H0 _ hB2).mono ?_); rintro e w1 ⟨rfl, hB0_⟩; have m1 := (hB0_.block w.heap.size (by omega)).trans hb0; have q1 := (hB0_.block (w.heap.size + 1) (by omega)).trans hb1; have k1 := hB2.trans (hB0_.mono hB2.size); obtain ⟨⟨o1_0, o1_1, o1_2, o1_3, o1_4, o1_5, o1_6, o1_7⟩, -⟩ := cell_row8 m1; obtain ⟨⟨p1_0, p1_1, p1_2, p1_3, p1_4, p1_5, p1_6, p1_7⟩, -⟩ := cell_row8 q1)
    | (go_at_call 73; (with_reducible refine (H1 _ k1).mono ?_); rintro e w2 ⟨rfl, hB1_⟩; have m2 := (hB1_.block w.heap.size (Array.getElem?_eq_some_iff.1 m1).1).trans m1; have q2 := (hB1_.block (w.heap.size + 1) (Array.getElem?_eq_some_iff.1 q1).1).trans q1; have k2 := k1.trans (hB1_.mono k1.size); obtain ⟨⟨o2_0, o2_1, o2_2, o2_3, o2_4, o2_5, o2_6, o2_7⟩, -⟩ := cell_row8 m2; obtain ⟨⟨p2_0, p2_1, p2_2, p2_3, p2_4, p2_5, p2_6, p2_7⟩, -⟩ := cell_row8 q2)
    )
  go_ret
  exact ⟨rfl, k2⟩

set_option maxRecDepth 20000 in
set_option maxHeartbeats 4000000 in
theorem sameFn_5 (f g : Fm) (s t : Fs) (hv : FnAt w f s) (hu : FnAt w g t) (hl : Small f) (e0 : f.name = g.name) (e1 : f.params = g.params) (e2 : f.locals = g.locals) (e3 : f.caps = g.caps) (e4 : f.consts = g.consts) (n5 : ¬ f.code = g.code) :
    Calls Tryz.prog 36 #[fnA f s, fnA g t] w fun e w' => e = .returned (.bool false) ∧ Below w.heap.size w w' := by
  obtain ⟨a0, a1, a2, a3, a4, a5, a6, a7⟩ := f
  obtain ⟨b0, b1, b2, b3, b4, b5, b6, b7⟩ := g
  simp only at e0 e1 e2 e3 e4 n5
  subst e0
  subst e1
  subst e2
  subst e3
  subst e4
  unfold fnA
  have hB2 := below2' w (.cells #[.string a0, .int .i64 a1, .int .i64 a2, .slice s.qc a3.length s.cc, .slice s.qk a4.length s.ck, .slice s.qi a5.length s.ci, .slice s.ql a6.length s.cl, .slice s.qh a7.length s.ch] 45) (.cells #[.string a0, .int .i64 a1, .int .i64 a2, .slice t.qc a3.length t.cc, .slice t.qk a4.length t.ck, .slice t.qi b5.length t.ci, .slice t.ql b6.length t.cl, .slice t.qh b7.length t.ch] 45)
  have hb0 := (Below.heap_alloc (w.alloc (.cells #[.string a0, .int .i64 a1, .int .i64 a2, .slice s.qc a3.length s.cc, .slice s.qk a4.length s.ck, .slice s.qi a5.length s.ci, .slice s.ql a6.length s.cl, .slice s.qh a7.length s.ch] 45)) (.cells #[.string a0, .int .i64 a1, .int .i64 a2, .slice t.qc a3.length t.cc, .slice t.qk a4.length t.ck, .slice t.qi b5.length t.ci, .slice t.ql b6.length t.cl, .slice t.qh b7.length t.ch] 45) w.heap.size (by simp)).trans (heap_alloc_new w (.cells #[.string a0, .int .i64 a1, .int .i64 a2, .slice s.qc a3.length s.cc, .slice s.qk a4.length s.ck, .slice s.qi a5.length s.ci, .slice s.ql a6.length s.cl, .slice s.qh a7.length s.ch] 45))
  have hb1 := heap_two w (.cells #[.string a0, .int .i64 a1, .int .i64 a2, .slice s.qc a3.length s.cc, .slice s.qk a4.length s.ck, .slice s.qi a5.length s.ci, .slice s.ql a6.length s.cl, .slice s.qh a7.length s.ch] 45) (.cells #[.string a0, .int .i64 a1, .int .i64 a2, .slice t.qc a3.length t.cc, .slice t.qk a4.length t.ck, .slice t.qi b5.length t.ci, .slice t.ql b6.length t.cl, .slice t.qh b7.length t.ch] 45)
  have hsz : ((w.alloc (.cells #[.string a0, .int .i64 a1, .int .i64 a2, .slice s.qc a3.length s.cc, .slice s.qk a4.length s.ck, .slice s.qi a5.length s.ci, .slice s.ql a6.length s.cl, .slice s.qh a7.length s.ch] 45)).alloc (.cells #[.string a0, .int .i64 a1, .int .i64 a2, .slice t.qc a3.length t.cc, .slice t.qk a4.length t.ck, .slice t.qi b5.length t.ci, .slice t.ql b6.length t.cl, .slice t.qh b7.length t.ch] 45)).heap.size = w.heap.size + 2 := by simp
  have H0 := fun (W : World) (h : Below w.heap.size w W) => known (sameCaps_in s.cc t.cc (hv.caps.below h) (hu.caps.below h) hl.caps) true (by simp)
  have H1 := fun (W : World) (h : Below w.heap.size w W) => known (sameConsts_in s.ck t.ck (hv.consts.below h) (hu.consts.below h) hl.consts) true (by simp)
  have H2 := fun (W : World) (h : Below w.heap.size w W) => known (sameInses_in s.ci t.ci (hv.code.below h) (hu.code.below h) hl.code) false (by simp; exact n5)
  obtain ⟨⟨o0, o1, o2, o3, o4, o5, o6, o7⟩, -⟩ := cell_row8 hb0
  obtain ⟨⟨p0, p1, p2, p3, p4, p5, p6, p7⟩, -⟩ := cell_row8 hb1
  clear hv hu hl
  clear n5
  go_enter Tryz.func36, Tryz.ntmps36
  go_wp2_with (first
    | (go_at_call 72; (with_reducible refine (H0 _ hB2).mono ?_); rintro e w1 ⟨rfl, hB0_⟩; have m1 := (hB0_.block w.heap.size (by omega)).trans hb0; have q1 := (hB0_.block (w.heap.size + 1) (by omega)).trans hb1; have k1 := hB2.trans (hB0_.mono hB2.size); obtain ⟨⟨o1_0, o1_1, o1_2, o1_3, o1_4, o1_5, o1_6, o1_7⟩, -⟩ := cell_row8 m1; obtain ⟨⟨p1_0, p1_1, p1_2, p1_3, p1_4, p1_5, p1_6, p1_7⟩, -⟩ := cell_row8 q1)
    | (go_at_call 73; (with_reducible refine (H1 _ k1).mono ?_); rintro e w2 ⟨rfl, hB1_⟩; have m2 := (hB1_.block w.heap.size (Array.getElem?_eq_some_iff.1 m1).1).trans m1; have q2 := (hB1_.block (w.heap.size + 1) (Array.getElem?_eq_some_iff.1 q1).1).trans q1; have k2 := k1.trans (hB1_.mono k1.size); obtain ⟨⟨o2_0, o2_1, o2_2, o2_3, o2_4, o2_5, o2_6, o2_7⟩, -⟩ := cell_row8 m2; obtain ⟨⟨p2_0, p2_1, p2_2, p2_3, p2_4, p2_5, p2_6, p2_7⟩, -⟩ := cell_row8 q2)
    | (go_at_call 74; (with_reducible refine (H2 _ k2).mono ?_); rintro e w3 ⟨rfl, hB2_⟩; have m3 := (hB2_.block w.heap.size (Array.getElem?_eq_some_iff.1 m2).1).trans m2; have q3 := (hB2_.block (w.heap.size + 1) (Array.getElem?_eq_some_iff.1 q2).1).trans q2; have k3 := k2.trans (hB2_.mono k2.size); obtain ⟨⟨o3_0, o3_1, o3_2, o3_3, o3_4, o3_5, o3_6, o3_7⟩, -⟩ := cell_row8 m3; obtain ⟨⟨p3_0, p3_1, p3_2, p3_3, p3_4, p3_5, p3_6, p3_7⟩, -⟩ := cell_row8 q3)
    )
  go_ret
  exact ⟨rfl, k3⟩

set_option maxRecDepth 20000 in
set_option maxHeartbeats 4000000 in
theorem sameFn_6 (f g : Fm) (s t : Fs) (hv : FnAt w f s) (hu : FnAt w g t) (hl : Small f) (e0 : f.name = g.name) (e1 : f.params = g.params) (e2 : f.locals = g.locals) (e3 : f.caps = g.caps) (e4 : f.consts = g.consts) (e5 : f.code = g.code) (n6 : ¬ f.lines = g.lines) :
    Calls Tryz.prog 36 #[fnA f s, fnA g t] w fun e w' => e = .returned (.bool false) ∧ Below w.heap.size w w' := by
  obtain ⟨a0, a1, a2, a3, a4, a5, a6, a7⟩ := f
  obtain ⟨b0, b1, b2, b3, b4, b5, b6, b7⟩ := g
  simp only at e0 e1 e2 e3 e4 e5 n6
  subst e0
  subst e1
  subst e2
  subst e3
  subst e4
  subst e5
  unfold fnA
  have hB2 := below2' w (.cells #[.string a0, .int .i64 a1, .int .i64 a2, .slice s.qc a3.length s.cc, .slice s.qk a4.length s.ck, .slice s.qi a5.length s.ci, .slice s.ql a6.length s.cl, .slice s.qh a7.length s.ch] 45) (.cells #[.string a0, .int .i64 a1, .int .i64 a2, .slice t.qc a3.length t.cc, .slice t.qk a4.length t.ck, .slice t.qi a5.length t.ci, .slice t.ql b6.length t.cl, .slice t.qh b7.length t.ch] 45)
  have hb0 := (Below.heap_alloc (w.alloc (.cells #[.string a0, .int .i64 a1, .int .i64 a2, .slice s.qc a3.length s.cc, .slice s.qk a4.length s.ck, .slice s.qi a5.length s.ci, .slice s.ql a6.length s.cl, .slice s.qh a7.length s.ch] 45)) (.cells #[.string a0, .int .i64 a1, .int .i64 a2, .slice t.qc a3.length t.cc, .slice t.qk a4.length t.ck, .slice t.qi a5.length t.ci, .slice t.ql b6.length t.cl, .slice t.qh b7.length t.ch] 45) w.heap.size (by simp)).trans (heap_alloc_new w (.cells #[.string a0, .int .i64 a1, .int .i64 a2, .slice s.qc a3.length s.cc, .slice s.qk a4.length s.ck, .slice s.qi a5.length s.ci, .slice s.ql a6.length s.cl, .slice s.qh a7.length s.ch] 45))
  have hb1 := heap_two w (.cells #[.string a0, .int .i64 a1, .int .i64 a2, .slice s.qc a3.length s.cc, .slice s.qk a4.length s.ck, .slice s.qi a5.length s.ci, .slice s.ql a6.length s.cl, .slice s.qh a7.length s.ch] 45) (.cells #[.string a0, .int .i64 a1, .int .i64 a2, .slice t.qc a3.length t.cc, .slice t.qk a4.length t.ck, .slice t.qi a5.length t.ci, .slice t.ql b6.length t.cl, .slice t.qh b7.length t.ch] 45)
  have hsz : ((w.alloc (.cells #[.string a0, .int .i64 a1, .int .i64 a2, .slice s.qc a3.length s.cc, .slice s.qk a4.length s.ck, .slice s.qi a5.length s.ci, .slice s.ql a6.length s.cl, .slice s.qh a7.length s.ch] 45)).alloc (.cells #[.string a0, .int .i64 a1, .int .i64 a2, .slice t.qc a3.length t.cc, .slice t.qk a4.length t.ck, .slice t.qi a5.length t.ci, .slice t.ql b6.length t.cl, .slice t.qh b7.length t.ch] 45)).heap.size = w.heap.size + 2 := by simp
  have H0 := fun (W : World) (h : Below w.heap.size w W) => known (sameCaps_in s.cc t.cc (hv.caps.below h) (hu.caps.below h) hl.caps) true (by simp)
  have H1 := fun (W : World) (h : Below w.heap.size w W) => known (sameConsts_in s.ck t.ck (hv.consts.below h) (hu.consts.below h) hl.consts) true (by simp)
  have H2 := fun (W : World) (h : Below w.heap.size w W) => known (sameInses_in s.ci t.ci (hv.code.below h) (hu.code.below h) hl.code) true (by simp)
  have H3 := fun (W : World) (h : Below w.heap.size w W) => known (sameInts_in s.cl t.cl (hv.lines.below h) (hu.lines.below h) hl.lines) false (by simp; exact n6)
  obtain ⟨⟨o0, o1, o2, o3, o4, o5, o6, o7⟩, -⟩ := cell_row8 hb0
  obtain ⟨⟨p0, p1, p2, p3, p4, p5, p6, p7⟩, -⟩ := cell_row8 hb1
  clear hv hu hl
  clear n6
  go_enter Tryz.func36, Tryz.ntmps36
  go_wp2_with (first
    | (go_at_call 72; (with_reducible refine (H0 _ hB2).mono ?_); rintro e w1 ⟨rfl, hB0_⟩; have m1 := (hB0_.block w.heap.size (by omega)).trans hb0; have q1 := (hB0_.block (w.heap.size + 1) (by omega)).trans hb1; have k1 := hB2.trans (hB0_.mono hB2.size); obtain ⟨⟨o1_0, o1_1, o1_2, o1_3, o1_4, o1_5, o1_6, o1_7⟩, -⟩ := cell_row8 m1; obtain ⟨⟨p1_0, p1_1, p1_2, p1_3, p1_4, p1_5, p1_6, p1_7⟩, -⟩ := cell_row8 q1)
    | (go_at_call 73; (with_reducible refine (H1 _ k1).mono ?_); rintro e w2 ⟨rfl, hB1_⟩; have m2 := (hB1_.block w.heap.size (Array.getElem?_eq_some_iff.1 m1).1).trans m1; have q2 := (hB1_.block (w.heap.size + 1) (Array.getElem?_eq_some_iff.1 q1).1).trans q1; have k2 := k1.trans (hB1_.mono k1.size); obtain ⟨⟨o2_0, o2_1, o2_2, o2_3, o2_4, o2_5, o2_6, o2_7⟩, -⟩ := cell_row8 m2; obtain ⟨⟨p2_0, p2_1, p2_2, p2_3, p2_4, p2_5, p2_6, p2_7⟩, -⟩ := cell_row8 q2)
    | (go_at_call 74; (with_reducible refine (H2 _ k2).mono ?_); rintro e w3 ⟨rfl, hB2_⟩; have m3 := (hB2_.block w.heap.size (Array.getElem?_eq_some_iff.1 m2).1).trans m2; have q3 := (hB2_.block (w.heap.size + 1) (Array.getElem?_eq_some_iff.1 q2).1).trans q2; have k3 := k2.trans (hB2_.mono k2.size); obtain ⟨⟨o3_0, o3_1, o3_2, o3_3, o3_4, o3_5, o3_6, o3_7⟩, -⟩ := cell_row8 m3; obtain ⟨⟨p3_0, p3_1, p3_2, p3_3, p3_4, p3_5, p3_6, p3_7⟩, -⟩ := cell_row8 q3)
    | (go_at_call 75; (with_reducible refine (H3 _ k3).mono ?_); rintro e w4 ⟨rfl, hB3_⟩; have m4 := (hB3_.block w.heap.size (Array.getElem?_eq_some_iff.1 m3).1).trans m3; have q4 := (hB3_.block (w.heap.size + 1) (Array.getElem?_eq_some_iff.1 q3).1).trans q3; have k4 := k3.trans (hB3_.mono k3.size); obtain ⟨⟨o4_0, o4_1, o4_2, o4_3, o4_4, o4_5, o4_6, o4_7⟩, -⟩ := cell_row8 m4; obtain ⟨⟨p4_0, p4_1, p4_2, p4_3, p4_4, p4_5, p4_6, p4_7⟩, -⟩ := cell_row8 q4)
    )
  go_ret
  exact ⟨rfl, k4⟩

set_option maxRecDepth 20000 in
set_option maxHeartbeats 4000000 in
theorem sameFn_7 (f g : Fm) (s t : Fs) (hv : FnAt w f s) (hu : FnAt w g t) (hl : Small f) (e0 : f.name = g.name) (e1 : f.params = g.params) (e2 : f.locals = g.locals) (e3 : f.caps = g.caps) (e4 : f.consts = g.consts) (e5 : f.code = g.code) (e6 : f.lines = g.lines) (n7 : ¬ f.hs = g.hs) :
    Calls Tryz.prog 36 #[fnA f s, fnA g t] w fun e w' => e = .returned (.bool false) ∧ Below w.heap.size w w' := by
  obtain ⟨a0, a1, a2, a3, a4, a5, a6, a7⟩ := f
  obtain ⟨b0, b1, b2, b3, b4, b5, b6, b7⟩ := g
  simp only at e0 e1 e2 e3 e4 e5 e6 n7
  subst e0
  subst e1
  subst e2
  subst e3
  subst e4
  subst e5
  subst e6
  unfold fnA
  have hB2 := below2' w (.cells #[.string a0, .int .i64 a1, .int .i64 a2, .slice s.qc a3.length s.cc, .slice s.qk a4.length s.ck, .slice s.qi a5.length s.ci, .slice s.ql a6.length s.cl, .slice s.qh a7.length s.ch] 45) (.cells #[.string a0, .int .i64 a1, .int .i64 a2, .slice t.qc a3.length t.cc, .slice t.qk a4.length t.ck, .slice t.qi a5.length t.ci, .slice t.ql a6.length t.cl, .slice t.qh b7.length t.ch] 45)
  have hb0 := (Below.heap_alloc (w.alloc (.cells #[.string a0, .int .i64 a1, .int .i64 a2, .slice s.qc a3.length s.cc, .slice s.qk a4.length s.ck, .slice s.qi a5.length s.ci, .slice s.ql a6.length s.cl, .slice s.qh a7.length s.ch] 45)) (.cells #[.string a0, .int .i64 a1, .int .i64 a2, .slice t.qc a3.length t.cc, .slice t.qk a4.length t.ck, .slice t.qi a5.length t.ci, .slice t.ql a6.length t.cl, .slice t.qh b7.length t.ch] 45) w.heap.size (by simp)).trans (heap_alloc_new w (.cells #[.string a0, .int .i64 a1, .int .i64 a2, .slice s.qc a3.length s.cc, .slice s.qk a4.length s.ck, .slice s.qi a5.length s.ci, .slice s.ql a6.length s.cl, .slice s.qh a7.length s.ch] 45))
  have hb1 := heap_two w (.cells #[.string a0, .int .i64 a1, .int .i64 a2, .slice s.qc a3.length s.cc, .slice s.qk a4.length s.ck, .slice s.qi a5.length s.ci, .slice s.ql a6.length s.cl, .slice s.qh a7.length s.ch] 45) (.cells #[.string a0, .int .i64 a1, .int .i64 a2, .slice t.qc a3.length t.cc, .slice t.qk a4.length t.ck, .slice t.qi a5.length t.ci, .slice t.ql a6.length t.cl, .slice t.qh b7.length t.ch] 45)
  have hsz : ((w.alloc (.cells #[.string a0, .int .i64 a1, .int .i64 a2, .slice s.qc a3.length s.cc, .slice s.qk a4.length s.ck, .slice s.qi a5.length s.ci, .slice s.ql a6.length s.cl, .slice s.qh a7.length s.ch] 45)).alloc (.cells #[.string a0, .int .i64 a1, .int .i64 a2, .slice t.qc a3.length t.cc, .slice t.qk a4.length t.ck, .slice t.qi a5.length t.ci, .slice t.ql a6.length t.cl, .slice t.qh b7.length t.ch] 45)).heap.size = w.heap.size + 2 := by simp
  have H0 := fun (W : World) (h : Below w.heap.size w W) => known (sameCaps_in s.cc t.cc (hv.caps.below h) (hu.caps.below h) hl.caps) true (by simp)
  have H1 := fun (W : World) (h : Below w.heap.size w W) => known (sameConsts_in s.ck t.ck (hv.consts.below h) (hu.consts.below h) hl.consts) true (by simp)
  have H2 := fun (W : World) (h : Below w.heap.size w W) => known (sameInses_in s.ci t.ci (hv.code.below h) (hu.code.below h) hl.code) true (by simp)
  have H3 := fun (W : World) (h : Below w.heap.size w W) => known (sameInts_in s.cl t.cl (hv.lines.below h) (hu.lines.below h) hl.lines) true (by simp)
  have H4 := fun (W : World) (h : Below w.heap.size w W) => known (sameHandlers_in s.ch t.ch (hv.hs.below h) (hu.hs.below h) hl.hs) false (by simp; exact n7)
  obtain ⟨⟨o0, o1, o2, o3, o4, o5, o6, o7⟩, -⟩ := cell_row8 hb0
  obtain ⟨⟨p0, p1, p2, p3, p4, p5, p6, p7⟩, -⟩ := cell_row8 hb1
  clear hv hu hl
  clear n7
  go_enter Tryz.func36, Tryz.ntmps36
  go_wp2_with (first
    | (go_at_call 72; (with_reducible refine (H0 _ hB2).mono ?_); rintro e w1 ⟨rfl, hB0_⟩; have m1 := (hB0_.block w.heap.size (by omega)).trans hb0; have q1 := (hB0_.block (w.heap.size + 1) (by omega)).trans hb1; have k1 := hB2.trans (hB0_.mono hB2.size); obtain ⟨⟨o1_0, o1_1, o1_2, o1_3, o1_4, o1_5, o1_6, o1_7⟩, -⟩ := cell_row8 m1; obtain ⟨⟨p1_0, p1_1, p1_2, p1_3, p1_4, p1_5, p1_6, p1_7⟩, -⟩ := cell_row8 q1)
    | (go_at_call 73; (with_reducible refine (H1 _ k1).mono ?_); rintro e w2 ⟨rfl, hB1_⟩; have m2 := (hB1_.block w.heap.size (Array.getElem?_eq_some_iff.1 m1).1).trans m1; have q2 := (hB1_.block (w.heap.size + 1) (Array.getElem?_eq_some_iff.1 q1).1).trans q1; have k2 := k1.trans (hB1_.mono k1.size); obtain ⟨⟨o2_0, o2_1, o2_2, o2_3, o2_4, o2_5, o2_6, o2_7⟩, -⟩ := cell_row8 m2; obtain ⟨⟨p2_0, p2_1, p2_2, p2_3, p2_4, p2_5, p2_6, p2_7⟩, -⟩ := cell_row8 q2)
    | (go_at_call 74; (with_reducible refine (H2 _ k2).mono ?_); rintro e w3 ⟨rfl, hB2_⟩; have m3 := (hB2_.block w.heap.size (Array.getElem?_eq_some_iff.1 m2).1).trans m2; have q3 := (hB2_.block (w.heap.size + 1) (Array.getElem?_eq_some_iff.1 q2).1).trans q2; have k3 := k2.trans (hB2_.mono k2.size); obtain ⟨⟨o3_0, o3_1, o3_2, o3_3, o3_4, o3_5, o3_6, o3_7⟩, -⟩ := cell_row8 m3; obtain ⟨⟨p3_0, p3_1, p3_2, p3_3, p3_4, p3_5, p3_6, p3_7⟩, -⟩ := cell_row8 q3)
    | (go_at_call 75; (with_reducible refine (H3 _ k3).mono ?_); rintro e w4 ⟨rfl, hB3_⟩; have m4 := (hB3_.block w.heap.size (Array.getElem?_eq_some_iff.1 m3).1).trans m3; have q4 := (hB3_.block (w.heap.size + 1) (Array.getElem?_eq_some_iff.1 q3).1).trans q3; have k4 := k3.trans (hB3_.mono k3.size); obtain ⟨⟨o4_0, o4_1, o4_2, o4_3, o4_4, o4_5, o4_6, o4_7⟩, -⟩ := cell_row8 m4; obtain ⟨⟨p4_0, p4_1, p4_2, p4_3, p4_4, p4_5, p4_6, p4_7⟩, -⟩ := cell_row8 q4)
    | (go_at_call 76; (with_reducible refine (H4 _ k4).mono ?_); rintro e w5 ⟨rfl, hB4_⟩; have m5 := (hB4_.block w.heap.size (Array.getElem?_eq_some_iff.1 m4).1).trans m4; have q5 := (hB4_.block (w.heap.size + 1) (Array.getElem?_eq_some_iff.1 q4).1).trans q4; have k5 := k4.trans (hB4_.mono k4.size); obtain ⟨⟨o5_0, o5_1, o5_2, o5_3, o5_4, o5_5, o5_6, o5_7⟩, -⟩ := cell_row8 m5; obtain ⟨⟨p5_0, p5_1, p5_2, p5_3, p5_4, p5_5, p5_6, p5_7⟩, -⟩ := cell_row8 q5)
    )
  go_ret
  exact ⟨rfl, k5⟩

set_option maxRecDepth 20000 in
set_option maxHeartbeats 4000000 in
theorem sameFn_8 (f g : Fm) (s t : Fs) (hv : FnAt w f s) (hu : FnAt w g t) (hl : Small f) (e0 : f.name = g.name) (e1 : f.params = g.params) (e2 : f.locals = g.locals) (e3 : f.caps = g.caps) (e4 : f.consts = g.consts) (e5 : f.code = g.code) (e6 : f.lines = g.lines) (e7 : f.hs = g.hs) :
    Calls Tryz.prog 36 #[fnA f s, fnA g t] w fun e w' => e = .returned (.bool true) ∧ Below w.heap.size w w' := by
  obtain ⟨a0, a1, a2, a3, a4, a5, a6, a7⟩ := f
  obtain ⟨b0, b1, b2, b3, b4, b5, b6, b7⟩ := g
  simp only at e0 e1 e2 e3 e4 e5 e6 e7
  subst e0
  subst e1
  subst e2
  subst e3
  subst e4
  subst e5
  subst e6
  subst e7
  unfold fnA
  have hB2 := below2' w (.cells #[.string a0, .int .i64 a1, .int .i64 a2, .slice s.qc a3.length s.cc, .slice s.qk a4.length s.ck, .slice s.qi a5.length s.ci, .slice s.ql a6.length s.cl, .slice s.qh a7.length s.ch] 45) (.cells #[.string a0, .int .i64 a1, .int .i64 a2, .slice t.qc a3.length t.cc, .slice t.qk a4.length t.ck, .slice t.qi a5.length t.ci, .slice t.ql a6.length t.cl, .slice t.qh a7.length t.ch] 45)
  have hb0 := (Below.heap_alloc (w.alloc (.cells #[.string a0, .int .i64 a1, .int .i64 a2, .slice s.qc a3.length s.cc, .slice s.qk a4.length s.ck, .slice s.qi a5.length s.ci, .slice s.ql a6.length s.cl, .slice s.qh a7.length s.ch] 45)) (.cells #[.string a0, .int .i64 a1, .int .i64 a2, .slice t.qc a3.length t.cc, .slice t.qk a4.length t.ck, .slice t.qi a5.length t.ci, .slice t.ql a6.length t.cl, .slice t.qh a7.length t.ch] 45) w.heap.size (by simp)).trans (heap_alloc_new w (.cells #[.string a0, .int .i64 a1, .int .i64 a2, .slice s.qc a3.length s.cc, .slice s.qk a4.length s.ck, .slice s.qi a5.length s.ci, .slice s.ql a6.length s.cl, .slice s.qh a7.length s.ch] 45))
  have hb1 := heap_two w (.cells #[.string a0, .int .i64 a1, .int .i64 a2, .slice s.qc a3.length s.cc, .slice s.qk a4.length s.ck, .slice s.qi a5.length s.ci, .slice s.ql a6.length s.cl, .slice s.qh a7.length s.ch] 45) (.cells #[.string a0, .int .i64 a1, .int .i64 a2, .slice t.qc a3.length t.cc, .slice t.qk a4.length t.ck, .slice t.qi a5.length t.ci, .slice t.ql a6.length t.cl, .slice t.qh a7.length t.ch] 45)
  have hsz : ((w.alloc (.cells #[.string a0, .int .i64 a1, .int .i64 a2, .slice s.qc a3.length s.cc, .slice s.qk a4.length s.ck, .slice s.qi a5.length s.ci, .slice s.ql a6.length s.cl, .slice s.qh a7.length s.ch] 45)).alloc (.cells #[.string a0, .int .i64 a1, .int .i64 a2, .slice t.qc a3.length t.cc, .slice t.qk a4.length t.ck, .slice t.qi a5.length t.ci, .slice t.ql a6.length t.cl, .slice t.qh a7.length t.ch] 45)).heap.size = w.heap.size + 2 := by simp
  have H0 := fun (W : World) (h : Below w.heap.size w W) => known (sameCaps_in s.cc t.cc (hv.caps.below h) (hu.caps.below h) hl.caps) true (by simp)
  have H1 := fun (W : World) (h : Below w.heap.size w W) => known (sameConsts_in s.ck t.ck (hv.consts.below h) (hu.consts.below h) hl.consts) true (by simp)
  have H2 := fun (W : World) (h : Below w.heap.size w W) => known (sameInses_in s.ci t.ci (hv.code.below h) (hu.code.below h) hl.code) true (by simp)
  have H3 := fun (W : World) (h : Below w.heap.size w W) => known (sameInts_in s.cl t.cl (hv.lines.below h) (hu.lines.below h) hl.lines) true (by simp)
  have H4 := fun (W : World) (h : Below w.heap.size w W) => known (sameHandlers_in s.ch t.ch (hv.hs.below h) (hu.hs.below h) hl.hs) true (by simp)
  obtain ⟨⟨o0, o1, o2, o3, o4, o5, o6, o7⟩, -⟩ := cell_row8 hb0
  obtain ⟨⟨p0, p1, p2, p3, p4, p5, p6, p7⟩, -⟩ := cell_row8 hb1
  clear hv hu hl
  go_enter Tryz.func36, Tryz.ntmps36
  go_wp2_with (first
    | (go_at_call 72; (with_reducible refine (H0 _ hB2).mono ?_); rintro e w1 ⟨rfl, hB0_⟩; have m1 := (hB0_.block w.heap.size (by omega)).trans hb0; have q1 := (hB0_.block (w.heap.size + 1) (by omega)).trans hb1; have k1 := hB2.trans (hB0_.mono hB2.size); obtain ⟨⟨o1_0, o1_1, o1_2, o1_3, o1_4, o1_5, o1_6, o1_7⟩, -⟩ := cell_row8 m1; obtain ⟨⟨p1_0, p1_1, p1_2, p1_3, p1_4, p1_5, p1_6, p1_7⟩, -⟩ := cell_row8 q1)
    | (go_at_call 73; (with_reducible refine (H1 _ k1).mono ?_); rintro e w2 ⟨rfl, hB1_⟩; have m2 := (hB1_.block w.heap.size (Array.getElem?_eq_some_iff.1 m1).1).trans m1; have q2 := (hB1_.block (w.heap.size + 1) (Array.getElem?_eq_some_iff.1 q1).1).trans q1; have k2 := k1.trans (hB1_.mono k1.size); obtain ⟨⟨o2_0, o2_1, o2_2, o2_3, o2_4, o2_5, o2_6, o2_7⟩, -⟩ := cell_row8 m2; obtain ⟨⟨p2_0, p2_1, p2_2, p2_3, p2_4, p2_5, p2_6, p2_7⟩, -⟩ := cell_row8 q2)
    | (go_at_call 74; (with_reducible refine (H2 _ k2).mono ?_); rintro e w3 ⟨rfl, hB2_⟩; have m3 := (hB2_.block w.heap.size (Array.getElem?_eq_some_iff.1 m2).1).trans m2; have q3 := (hB2_.block (w.heap.size + 1) (Array.getElem?_eq_some_iff.1 q2).1).trans q2; have k3 := k2.trans (hB2_.mono k2.size); obtain ⟨⟨o3_0, o3_1, o3_2, o3_3, o3_4, o3_5, o3_6, o3_7⟩, -⟩ := cell_row8 m3; obtain ⟨⟨p3_0, p3_1, p3_2, p3_3, p3_4, p3_5, p3_6, p3_7⟩, -⟩ := cell_row8 q3)
    | (go_at_call 75; (with_reducible refine (H3 _ k3).mono ?_); rintro e w4 ⟨rfl, hB3_⟩; have m4 := (hB3_.block w.heap.size (Array.getElem?_eq_some_iff.1 m3).1).trans m3; have q4 := (hB3_.block (w.heap.size + 1) (Array.getElem?_eq_some_iff.1 q3).1).trans q3; have k4 := k3.trans (hB3_.mono k3.size); obtain ⟨⟨o4_0, o4_1, o4_2, o4_3, o4_4, o4_5, o4_6, o4_7⟩, -⟩ := cell_row8 m4; obtain ⟨⟨p4_0, p4_1, p4_2, p4_3, p4_4, p4_5, p4_6, p4_7⟩, -⟩ := cell_row8 q4)
    | (go_at_call 76; (with_reducible refine (H4 _ k4).mono ?_); rintro e w5 ⟨rfl, hB4_⟩; have m5 := (hB4_.block w.heap.size (Array.getElem?_eq_some_iff.1 m4).1).trans m4; have q5 := (hB4_.block (w.heap.size + 1) (Array.getElem?_eq_some_iff.1 q4).1).trans q4; have k5 := k4.trans (hB4_.mono k4.size); obtain ⟨⟨o5_0, o5_1, o5_2, o5_3, o5_4, o5_5, o5_6, o5_7⟩, -⟩ := cell_row8 m5; obtain ⟨⟨p5_0, p5_1, p5_2, p5_3, p5_4, p5_5, p5_6, p5_7⟩, -⟩ := cell_row8 q5)
    )
  go_ret
  exact ⟨rfl, k5⟩

theorem sameFn_in (f g : Fm) (s t : Fs) (hv : FnAt w f s) (hu : FnAt w g t) (hl : Small f) :
    Calls Tryz.prog 36 #[fnA f s, fnA g t] w fun e w' => ∃ b, e = .returned (.bool b) ∧ (b = true ↔ f = g) ∧ Below w.heap.size w w' := by
  by_cases e0 : f.name = g.name
  rotate_left
  · exact (sameFn_0 f g s t hv hu hl  e0).mono fun e w' ⟨h1, h2⟩ => ⟨false, h1, by simp; exact fun h => e0 (by rw [h]), h2⟩
  by_cases e1 : f.params = g.params
  rotate_left
  · exact (sameFn_1 f g s t hv hu hl e0 e1).mono fun e w' ⟨h1, h2⟩ => ⟨false, h1, by simp; exact fun h => e1 (by rw [h]), h2⟩
  by_cases e2 : f.locals = g.locals
  rotate_left
  · exact (sameFn_2 f g s t hv hu hl e0 e1 e2).mono fun e w' ⟨h1, h2⟩ => ⟨false, h1, by simp; exact fun h => e2 (by rw [h]), h2⟩
  by_cases e3 : f.caps = g.caps
  rotate_left
  · exact (sameFn_3 f g s t hv hu hl e0 e1 e2 e3).mono fun e w' ⟨h1, h2⟩ => ⟨false, h1, by simp; exact fun h => e3 (by rw [h]), h2⟩
  by_cases e4 : f.consts = g.consts
  rotate_left
  · exact (sameFn_4 f g s t hv hu hl e0 e1 e2 e3 e4).mono fun e w' ⟨h1, h2⟩ => ⟨false, h1, by simp; exact fun h => e4 (by rw [h]), h2⟩
  by_cases e5 : f.code = g.code
  rotate_left
  · exact (sameFn_5 f g s t hv hu hl e0 e1 e2 e3 e4 e5).mono fun e w' ⟨h1, h2⟩ => ⟨false, h1, by simp; exact fun h => e5 (by rw [h]), h2⟩
  by_cases e6 : f.lines = g.lines
  rotate_left
  · exact (sameFn_6 f g s t hv hu hl e0 e1 e2 e3 e4 e5 e6).mono fun e w' ⟨h1, h2⟩ => ⟨false, h1, by simp; exact fun h => e6 (by rw [h]), h2⟩
  by_cases e7 : f.hs = g.hs
  rotate_left
  · exact (sameFn_7 f g s t hv hu hl e0 e1 e2 e3 e4 e5 e6 e7).mono fun e w' ⟨h1, h2⟩ => ⟨false, h1, by simp; exact fun h => e7 (by rw [h]), h2⟩
  refine (sameFn_8 f g s t hv hu hl e0 e1 e2 e3 e4 e5 e6 e7).mono fun e w' ⟨h1, h2⟩ => ⟨true, h1, by simp; cases f; cases g; simp only at e0 e1 e2 e3 e4 e5 e6 e7; simp [e0, e1, e2, e3, e4, e5, e6, e7], h2⟩

set_option maxRecDepth 20000 in
set_option maxHeartbeats 4000000 in
theorem sameFns_in {p q : Option Addr} {l m : List Fm} (c d : Nat) (h1 : IsFns w p l) (h2 : IsFns w q m) (hl : l.length ≤ 1048576) (hs : ∀ f ∈ l, Small f) :
    Calls Tryz.prog 20 #[.slice p l.length c, .slice q m.length d] w fun e w' => ∃ b, e = .returned (.bool b) ∧ (b = true ↔ l = m) ∧ Below w.heap.size w w' := by
  by_cases hlen : l.length = m.length
  · have hml : m.length ≤ l.length := by omega
    have HLM : Hid (l.length ≤ m.length) := (by omega : l.length ≤ m.length)
    rw [← hlen]
    clear hlen
    go_enter Tryz.func20, Tryz.ntmps20
    go_wp2
    go_loopw [5] (fun k wr => ∃ j : Nat, k = .int .i64 j ∧ j ≤ l.length ∧ l.take j = m.take j ∧ Below w.heap.size w wr) (fun k _ => l.length - (intOf k).toNat)
    case atStart => exact ⟨0, rfl, by omega, by simp, Below.refl _ _⟩
    case round =>
      obtain ⟨j, rfl, hj, htk, hB⟩ := hrel
      have HTK : Hid _ := htk
      clear htk
      by_cases hjn : j < l.length
      · by_cases hjm : j < m.length
        · obtain ⟨x, hx⟩ : ∃ x, l[j]? = some x := ⟨l[j], by simp⟩
          obtain ⟨y, hy⟩ : ∃ y, m[j]? = some y := ⟨m[j], by simp⟩
          obtain ⟨b0, off, s, rfl, hvx, c0, c1, c2, c3, c4, c5, c6, c7⟩ := h1.look hB hx
          obtain ⟨b1, of1, t, rfl, hvy, d0, d1, d2, d3, d4, d5, d6, d7⟩ := h2.look hB hy
          have hjn' : (j : Int) < (l.length : Int) := by omega
          have hB1 : Below wr.heap.size wr wr.drew := (Below.refl _ _).drew
          have HF := fun (W : World) (h : Below wr.heap.size wr W) => sameFn_in x y s t (hvx.below h) (hvy.below h) (hs x (List.mem_of_getElem? hx))
          unfold fnA at HF
          by_cases hxy : x = y
          · subst hxy
            have HF1 := known (HF _ hB1) true (by simp)
            have HST : Hid _ := take_step HTK.out hx hy
            clear hx hy HF hvx hvy
            go_wp2
            go_region_with
              ((go_at_call 36; refine HF1.mono ?_; rintro e w2 ⟨rfl, hB2⟩))
            all_goals
              go_wp2
              go_roundw
              case rel => exact ⟨j + 1, by simp, by omega, HST.out, hB.trans ((hB1.trans (hB2.mono hB1.size)).mono hB.size)⟩
              case measure => simp [intOf]; omega
          · have HF1 := known (HF _ hB1) false (by simp; exact hxy)
            have HNE : Hid _ := at_ne hx hy hxy
            clear hx hy HF hvx hvy hxy
            go_wp2
            go_region_with
              ((go_at_call 36; refine HF1.mono ?_; rintro e w2 ⟨rfl, hB2⟩))
            all_goals
              go_wp2
              go_ret
              exact ⟨false, rfl, by simp; exact HNE.out, hB.trans ((hB1.trans (hB2.mono hB1.size)).mono hB.size)⟩
        · exact absurd HLM.out (by omega)
      · have hjn' : ¬ ((j : Int) < (l.length : Int)) := by omega
        go_wp2
        go_ret
        have hLM := HLM.out
        exact .inr ⟨rfl, take_end HTK.out (by omega) (by omega), hB⟩
  · have hq : ¬ ((l.length : Int) = (m.length : Int)) := by omega
    go_enter Tryz.func20, Tryz.ntmps20
    go_wp2
    go_ret
    exact ⟨false, rfl, by simp; exact fun e => hlen (by rw [e]), Below.refl _ _⟩

theorem sameProgram_in {p q : Option Addr} {l m : List Fm} (c d : Nat) (h1 : IsFns w p l) (h2 : IsFns w q m) (hl : l.length ≤ 1048576) (hs : ∀ f ∈ l, Small f) :
    Calls Tryz.prog 12 #[.slice p l.length c, .slice q m.length d] w fun e w' => ∃ b, e = .returned (.bool b) ∧ (b = true ↔ l = m) ∧ Below w.heap.size w w' := by
  have H := fun r hr => known (sameFns_in c d h1 h2 hl hs) r hr
  by_cases hlm : l = m
  · have H1 := H true (by simp; exact hlm)
    have HL : Hid _ := hlm
    clear H hlm h1 h2 hs
    go_enter Tryz.func12, Tryz.ntmps12
    go_wp2_with (first
      | (go_at_call 20; (with_reducible refine H1.mono ?_); rintro e w2 ⟨rfl, hB2⟩))
    go_ret
    exact ⟨true, rfl, by simp; exact HL.out, hB2⟩
  · have H1 := H false (by simp; exact hlm)
    have HL : Hid _ := hlm
    clear H hlm h1 h2 hs
    go_enter Tryz.func12, Tryz.ntmps12
    go_wp2_with (first
      | (go_at_call 20; (with_reducible refine H1.mono ?_); rintro e w2 ⟨rfl, hB2⟩))
    go_ret
    exact ⟨false, rfl, by simp; exact HL.out, hB2⟩

end Go.Proofs.YtnekcomkochmjaaGreatDoor
