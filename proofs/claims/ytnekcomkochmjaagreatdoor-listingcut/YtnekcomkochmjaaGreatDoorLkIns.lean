/- listing's page: texts in quotes, things, lines. -/
import Derived.Test.YtnekcomkochmjaaGreatDoorLkPage
import Derived.Test.YtnekcomkochmjaaGreatDoorLkMath
import Derived.Test.YtnekcomkochmjaaGreatDoorLkTab
import Derived.Deep.RegionWith
namespace Go.Proofs.YtnekcomkochmjaaGreatDoor
set_option linter.unusedVariables false
set_option linter.unusedSimpArgs false
open Go.RowKit

namespace Lk

variable {w : World}

/-- A page, and what was there when it was made. -/
structure Pg (w0 : World) (bp : Nat) (l : List UInt8) (w : World) : Prop where
  pg : IsPg w0.heap.size bp l w
  bel : Below w0.heap.size w0 w

theorem Pg.step {w0 : World} {bp : Nat} {l l' : List UInt8} {w w' : World} (h : Pg w0 bp l w) (hp : IsPg w0.heap.size bp l' w') (hs : PStep w0.heap.size bp w w') : Pg w0 bp l' w' := ⟨hp, h.bel.trans hs.bel⟩

theorem Pg.below {w0 : World} {bp : Nat} {l : List UInt8} {w w' : World} (h : Pg w0 bp l w) (hB : Below w.heap.size w w') : Pg w0 bp l w' := ⟨h.pg.below hB, h.bel.trans (hB.mono h.bel.size)⟩

theorem eq34 {c : UInt8} : c = 34 ↔ c.toNat = 34 := ⟨fun h => by rw [h]; rfl, fun h => UInt8.toNat_inj.1 h⟩

theorem eq92 {c : UInt8} : c = 92 ↔ c.toNat = 92 := ⟨fun h => by rw [h]; rfl, fun h => UInt8.toNat_inj.1 h⟩

theorem eq10 {c : UInt8} : c = 10 ↔ c.toNat = 10 := ⟨fun h => by rw [h]; rfl, fun h => UInt8.toNat_inj.1 h⟩

theorem esc_take {s : List UInt8} {j : Nat} {c : UInt8} (h : s[j]? = some c) : (s.take (j + 1)).flatMap esc = (s.take j).flatMap esc ++ esc c := by
  rw [List.take_add_one, h]
  simp

set_option maxRecDepth 20000 in
set_option maxHeartbeats 4000000 in
theorem quoted_in {w0 : World} {bp : Nat} {l : List UInt8} (h : Pg w0 bp l w) (x : List UInt8) (hl : l.length + (2 * x.length + 2) ≤ 67108864) :
    Calls Tryz.prog 84 #[.pointer (some ⟨bp, 0, none⟩), .string (bs x)] w fun e w' => e = .returned (.tuple #[]) ∧ Pg w0 bp (l ++ quo x) w' ∧ PStep w0.heap.size bp w w' := by
  have H0 : Calls Tryz.prog 38 #[.pointer (some ⟨bp, 0, none⟩), .int .u8 34] w fun e w' => e = .returned .nilIface ∧ IsPg w0.heap.size bp (l ++ [34]) w' ∧ PStep w0.heap.size bp w w' := pgByte_in h.pg h.bel.size 34 (by omega)
  have hsx := bs_size x
  have HP : Hid _ := h
  clear h
  go_enter Tryz.func84, Tryz.ntmps84
  go_wp2_with (first
    | (go_at_call 38; refine H0.mono ?_; clear H0; rintro e w1 ⟨rfl, hp1, hs1⟩))
  have hp1' := HP.out.step hp1 hs1
  clear hp1
  go_loopw [12] (fun k wr => ∃ i : Nat, k = .int .i64 i ∧ i ≤ x.length ∧ Pg w0 bp (l ++ 34 :: (x.take i).flatMap esc) wr ∧ PStep w0.heap.size bp w wr) (fun k _ => x.length - (intOf k).toNat)
  case atStart => exact ⟨0, rfl, by omega, by simpa using hp1', hs1⟩
  case round =>
    obtain ⟨i, rfl, hi, hp, hs⟩ := hrel
    clear hp1' hs1
    have hfl := flat_esc_len (x.take i)
    by_cases hin : i < x.length
    · have hin' : (i : Int) < (x.length : Int) := by omega
      have hjs : i < (bs x).size := by omega
      have hc : x[i]? = some ((bs x)[i]'hjs) := bs_get hjs
      have hlm : (l ++ 34 :: (x.take i).flatMap esc).length + 3 ≤ 67108864 := by simp at hfl ⊢; omega
      have het := esc_take hc
      generalize hL : (l ++ 34 :: (x.take i).flatMap esc : List UInt8) = L at *
      have HN : Hid ((l ++ 34 :: (x.take (i + 1)).flatMap esc : List UInt8) = L ++ esc ((bs x)[i]'hjs)) := by show _ = _; rw [het, ← hL]; simp
      have HP2 : Hid _ := hp
      clear hL het hfl hc
      by_cases q1 : (((bs x)[i]'hjs).toNat : Int) = 34
      · skip
        have A1 : Calls Tryz.prog 38 #[.pointer (some ⟨bp, 0, none⟩), .int .u8 92] wr fun e w' => e = .returned .nilIface ∧ IsPg w0.heap.size bp (L ++ [92]) w' ∧ PStep w0.heap.size bp wr w' := pgByte_in hp.pg hp.bel.size 92 (by omega)
        go_wp2_with (first
          | (go_at_call 38; (with_reducible refine A1.mono ?_); clear A1; rintro e w2 ⟨rfl, hp2, hs2⟩; have hq2 := HP2.out.step hp2 hs2; have A2 : Calls Tryz.prog 38 #[.pointer (some ⟨bp, 0, none⟩), .int .u8 34] w2 fun e w' => e = .returned .nilIface ∧ IsPg w0.heap.size bp ((L ++ [92]) ++ [34]) w' ∧ PStep w0.heap.size bp w2 w' := pgByte_in hq2.pg hq2.bel.size 34 (by simp; omega))
          | (go_at_call 38; (with_reducible refine A2.mono ?_); clear A2; rintro e w3 ⟨rfl, hp3, hs3⟩))
        go_roundw
        case rel =>
          refine ⟨i + 1, by simp, by omega, ?_, (hs.trans hs2).trans hs3⟩
          rw [HN.out, show esc ((bs x)[i]'hjs) = [92, 34] from by rw [eq34.2 (by omega : ((bs x)[i]'hjs).toNat = 34)]; rfl]
          have := hq2.step hp3 hs3
          simpa using this
        case measure => simp [intOf]; omega
      by_cases q2 : (((bs x)[i]'hjs).toNat : Int) = 92
      · skip
        have A1 : Calls Tryz.prog 38 #[.pointer (some ⟨bp, 0, none⟩), .int .u8 92] wr fun e w' => e = .returned .nilIface ∧ IsPg w0.heap.size bp (L ++ [92]) w' ∧ PStep w0.heap.size bp wr w' := pgByte_in hp.pg hp.bel.size 92 (by omega)
        go_wp2_with (first
          | (go_at_call 38; (with_reducible refine A1.mono ?_); clear A1; rintro e w2 ⟨rfl, hp2, hs2⟩; have hq2 := HP2.out.step hp2 hs2; have A2 : Calls Tryz.prog 38 #[.pointer (some ⟨bp, 0, none⟩), .int .u8 92] w2 fun e w' => e = .returned .nilIface ∧ IsPg w0.heap.size bp ((L ++ [92]) ++ [92]) w' ∧ PStep w0.heap.size bp w2 w' := pgByte_in hq2.pg hq2.bel.size 92 (by simp; omega))
          | (go_at_call 38; (with_reducible refine A2.mono ?_); clear A2; rintro e w3 ⟨rfl, hp3, hs3⟩))
        go_roundw
        case rel =>
          refine ⟨i + 1, by simp, by omega, ?_, (hs.trans hs2).trans hs3⟩
          rw [HN.out, show esc ((bs x)[i]'hjs) = [92, 92] from by rw [eq92.2 (by omega : ((bs x)[i]'hjs).toNat = 92)]; rfl]
          have := hq2.step hp3 hs3
          simpa using this
        case measure => simp [intOf]; omega
      by_cases q3 : (((bs x)[i]'hjs).toNat : Int) = 10
      · have A1 := pgWrite_in hp.pg hp.bel.size [92, 110] (by simp; omega)
        go_wp2_with (first
          | (go_at_call 83; refine A1.mono ?_; clear A1; rintro e w2 ⟨rfl, hp2, hs2⟩))
        go_roundw
        case rel =>
          refine ⟨i + 1, by simp, by omega, ?_, hs.trans hs2⟩
          rw [HN.out, show esc ((bs x)[i]'hjs) = [92, 110] from by rw [eq10.2 (by omega : ((bs x)[i]'hjs).toNat = 10)]; rfl]
          exact HP2.out.step hp2 hs2
        case measure => simp [intOf]; omega
      · have A1 := pgByte_in hp.pg hp.bel.size ((bs x)[i]'hjs) (by omega)
        go_wp2_with (first
          | (go_at_call 38; refine A1.mono ?_; clear A1; rintro e w2 ⟨rfl, hp2, hs2⟩))
        go_roundw
        case rel =>
          refine ⟨i + 1, by simp, by omega, ?_, hs.trans hs2⟩
          have he : esc ((bs x)[i]'hjs) = [(bs x)[i]'hjs] := by
            unfold esc
            rw [if_neg (by rw [eq34, eq92]; omega), if_neg (by rw [eq10]; omega)]
          rw [HN.out, he]
          exact HP2.out.step hp2 hs2
        case measure => simp [intOf]; omega
    · have hin' : ¬ ((i : Int) < (x.length : Int)) := by omega
      have he : x.take i = x := List.take_of_length_le (by omega)
      rw [he] at hp
      have H9 : Calls Tryz.prog 38 #[.pointer (some ⟨bp, 0, none⟩), .int .u8 34] wr fun e w' => e = .returned .nilIface ∧ IsPg w0.heap.size bp ((l ++ 34 :: x.flatMap esc) ++ [34]) w' ∧ PStep w0.heap.size bp wr w' := pgByte_in hp.pg hp.bel.size 34 (by rw [he] at hfl; simp at hfl ⊢; omega)
      have HP2 : Hid _ := hp
      clear hp hfl he
      go_wp2_with (first
        | (go_at_call 38; refine H9.mono ?_; clear H9; rintro e w1 ⟨rfl, hp1, hs1⟩))
      go_end0
      refine ⟨rfl, ?_, hs.trans hs1⟩
      have := HP2.out.step hp1 hs1
      simpa [quo] using this

end Lk

end Go.Proofs.YtnekcomkochmjaaGreatDoor

namespace Go.Proofs.YtnekcomkochmjaaGreatDoor
set_option linter.unusedVariables false
set_option linter.unusedSimpArgs false
open Go.RowKit

namespace Lk

variable {w : World}

/-- A thing, as it is handed. -/
def thV (t : Th) : Value := if t.k = 0 then .iface 70 (.string (bs t.l)) else if t.k = 1 then .iface 9 (.string (bs t.l)) else if t.k = 2 then .iface 3 (.int .i64 t.n) else .iface 2 (.int .i64 t.n)

theorem ta_ww (v : Value) (w : World) : (Instr.typeAssert (.iface 70 v) 20 70 true).run Tryz.prog w = .ok (.tuple #[v, .bool true]) w := by
  simp [Instr.typeAssert, run_underlying Tryz.underlying70, go_sem, Result.andThen]

theorem zv_s_w : (Tryz.prog.info? 9).map (·.zero) = some (some (.string ⟨#[]⟩)) := by kernel_rfl

theorem ta_ws (v : Value) (w : World) : (Instr.typeAssert (.iface 70 v) 20 9 true).run Tryz.prog w = .ok (.tuple #[.string ⟨#[]⟩, .bool false]) w := by
  obtain ⟨j, hj, hz'⟩ := Option.map_eq_some_iff.1 zv_s_w
  simp [Instr.typeAssert, run_underlying Tryz.underlying9, go_sem, Result.andThen, zeroValue, typeInfo, hj, hz']

theorem zv_i_w : (Tryz.prog.info? 3).map (·.zero) = some (some (.int .i64 0)) := by kernel_rfl

theorem ta_wi (v : Value) (w : World) : (Instr.typeAssert (.iface 70 v) 20 3 true).run Tryz.prog w = .ok (.tuple #[.int .i64 0, .bool false]) w := by
  obtain ⟨j, hj, hz'⟩ := Option.map_eq_some_iff.1 zv_i_w
  simp [Instr.typeAssert, run_underlying Tryz.underlying3, go_sem, Result.andThen, zeroValue, typeInfo, hj, hz']

theorem zv_l_w : (Tryz.prog.info? 2).map (·.zero) = some (some (.int .i64 0)) := by kernel_rfl

theorem ta_wl (v : Value) (w : World) : (Instr.typeAssert (.iface 70 v) 20 2 true).run Tryz.prog w = .ok (.tuple #[.int .i64 0, .bool false]) w := by
  obtain ⟨j, hj, hz'⟩ := Option.map_eq_some_iff.1 zv_l_w
  simp [Instr.typeAssert, run_underlying Tryz.underlying2, go_sem, Result.andThen, zeroValue, typeInfo, hj, hz']

theorem zv_w_s : (Tryz.prog.info? 70).map (·.zero) = some (some (.string ⟨#[]⟩)) := by kernel_rfl

theorem ta_sw (v : Value) (w : World) : (Instr.typeAssert (.iface 9 v) 20 70 true).run Tryz.prog w = .ok (.tuple #[.string ⟨#[]⟩, .bool false]) w := by
  obtain ⟨j, hj, hz'⟩ := Option.map_eq_some_iff.1 zv_w_s
  simp [Instr.typeAssert, run_underlying Tryz.underlying70, go_sem, Result.andThen, zeroValue, typeInfo, hj, hz']

theorem ta_ss (v : Value) (w : World) : (Instr.typeAssert (.iface 9 v) 20 9 true).run Tryz.prog w = .ok (.tuple #[v, .bool true]) w := by
  simp [Instr.typeAssert, run_underlying Tryz.underlying9, go_sem, Result.andThen]

theorem zv_i_s : (Tryz.prog.info? 3).map (·.zero) = some (some (.int .i64 0)) := by kernel_rfl

theorem ta_si (v : Value) (w : World) : (Instr.typeAssert (.iface 9 v) 20 3 true).run Tryz.prog w = .ok (.tuple #[.int .i64 0, .bool false]) w := by
  obtain ⟨j, hj, hz'⟩ := Option.map_eq_some_iff.1 zv_i_s
  simp [Instr.typeAssert, run_underlying Tryz.underlying3, go_sem, Result.andThen, zeroValue, typeInfo, hj, hz']

theorem zv_l_s : (Tryz.prog.info? 2).map (·.zero) = some (some (.int .i64 0)) := by kernel_rfl

theorem ta_sl (v : Value) (w : World) : (Instr.typeAssert (.iface 9 v) 20 2 true).run Tryz.prog w = .ok (.tuple #[.int .i64 0, .bool false]) w := by
  obtain ⟨j, hj, hz'⟩ := Option.map_eq_some_iff.1 zv_l_s
  simp [Instr.typeAssert, run_underlying Tryz.underlying2, go_sem, Result.andThen, zeroValue, typeInfo, hj, hz']

theorem zv_w_i : (Tryz.prog.info? 70).map (·.zero) = some (some (.string ⟨#[]⟩)) := by kernel_rfl

theorem ta_iw (v : Value) (w : World) : (Instr.typeAssert (.iface 3 v) 20 70 true).run Tryz.prog w = .ok (.tuple #[.string ⟨#[]⟩, .bool false]) w := by
  obtain ⟨j, hj, hz'⟩ := Option.map_eq_some_iff.1 zv_w_i
  simp [Instr.typeAssert, run_underlying Tryz.underlying70, go_sem, Result.andThen, zeroValue, typeInfo, hj, hz']

theorem zv_s_i : (Tryz.prog.info? 9).map (·.zero) = some (some (.string ⟨#[]⟩)) := by kernel_rfl

theorem ta_is (v : Value) (w : World) : (Instr.typeAssert (.iface 3 v) 20 9 true).run Tryz.prog w = .ok (.tuple #[.string ⟨#[]⟩, .bool false]) w := by
  obtain ⟨j, hj, hz'⟩ := Option.map_eq_some_iff.1 zv_s_i
  simp [Instr.typeAssert, run_underlying Tryz.underlying9, go_sem, Result.andThen, zeroValue, typeInfo, hj, hz']

theorem ta_ii (v : Value) (w : World) : (Instr.typeAssert (.iface 3 v) 20 3 true).run Tryz.prog w = .ok (.tuple #[v, .bool true]) w := by
  simp [Instr.typeAssert, run_underlying Tryz.underlying3, go_sem, Result.andThen]

theorem zv_l_i : (Tryz.prog.info? 2).map (·.zero) = some (some (.int .i64 0)) := by kernel_rfl

theorem ta_il (v : Value) (w : World) : (Instr.typeAssert (.iface 3 v) 20 2 true).run Tryz.prog w = .ok (.tuple #[.int .i64 0, .bool false]) w := by
  obtain ⟨j, hj, hz'⟩ := Option.map_eq_some_iff.1 zv_l_i
  simp [Instr.typeAssert, run_underlying Tryz.underlying2, go_sem, Result.andThen, zeroValue, typeInfo, hj, hz']

theorem zv_w_l : (Tryz.prog.info? 70).map (·.zero) = some (some (.string ⟨#[]⟩)) := by kernel_rfl

theorem ta_lw (v : Value) (w : World) : (Instr.typeAssert (.iface 2 v) 20 70 true).run Tryz.prog w = .ok (.tuple #[.string ⟨#[]⟩, .bool false]) w := by
  obtain ⟨j, hj, hz'⟩ := Option.map_eq_some_iff.1 zv_w_l
  simp [Instr.typeAssert, run_underlying Tryz.underlying70, go_sem, Result.andThen, zeroValue, typeInfo, hj, hz']

theorem zv_s_l : (Tryz.prog.info? 9).map (·.zero) = some (some (.string ⟨#[]⟩)) := by kernel_rfl

theorem ta_ls (v : Value) (w : World) : (Instr.typeAssert (.iface 2 v) 20 9 true).run Tryz.prog w = .ok (.tuple #[.string ⟨#[]⟩, .bool false]) w := by
  obtain ⟨j, hj, hz'⟩ := Option.map_eq_some_iff.1 zv_s_l
  simp [Instr.typeAssert, run_underlying Tryz.underlying9, go_sem, Result.andThen, zeroValue, typeInfo, hj, hz']

theorem zv_i_l : (Tryz.prog.info? 3).map (·.zero) = some (some (.int .i64 0)) := by kernel_rfl

theorem ta_li (v : Value) (w : World) : (Instr.typeAssert (.iface 2 v) 20 3 true).run Tryz.prog w = .ok (.tuple #[.int .i64 0, .bool false]) w := by
  obtain ⟨j, hj, hz'⟩ := Option.map_eq_some_iff.1 zv_i_l
  simp [Instr.typeAssert, run_underlying Tryz.underlying3, go_sem, Result.andThen, zeroValue, typeInfo, hj, hz']

theorem ta_ll (v : Value) (w : World) : (Instr.typeAssert (.iface 2 v) 20 2 true).run Tryz.prog w = .ok (.tuple #[v, .bool true]) w := by
  simp [Instr.typeAssert, run_underlying Tryz.underlying2, go_sem, Result.andThen]

theorem grow_below' (w : World) (k : Nat) (os : Array Obj) : Below w.heap.size w (Sort.grow (w.drewN k) os) :=
  ⟨rfl, rfl, rfl, by simp [Sort.grow, World.drewN], fun i hi => by
    have : (Sort.grow (w.drewN k) os).heap[i]? = (w.drewN k).heap[i]? := Sort.heap_grow_old _ _ (by simpa [World.drewN] using hi)
    rw [this]; rfl⟩

set_option maxRecDepth 20000 in
set_option maxHeartbeats 4000000 in
theorem thing_in {w0 : World} {bp : Nat} {l : List UInt8} (h : Pg w0 bp l w) (t : Th) (ht : t.fits) (hl : l.length + (2 * t.l.length + 22) ≤ 67108864) (tab : Tab w0) :
    Calls Tryz.prog 39 #[.pointer (some ⟨bp, 0, none⟩), thV t] w fun e w' => e = .returned (.tuple #[]) ∧ Pg w0 bp (l ++ t.say) w' ∧ PStep w0.heap.size bp w w' := by
  have hsl := Th.say_len ht
  obtain ⟨h4, hn0, hn1⟩ := ht
  have HP : Hid _ := h
  by_cases k0 : t.k = 0
  · have hs : t.say = t.l := by unfold Th.say; rw [if_pos k0]
    have hv : thV t = .iface 70 (.string (bs t.l)) := by unfold thV; rw [if_pos k0]
    rw [hs, hv]
    have H := pgWrite_in h.pg h.bel.size t.l (by omega)
    clear h hs hv hsl k0
    have t1 := ta_ww (.string (bs t.l)) w
    go_enter Tryz.func39, Tryz.ntmps39
    go_wp2_with (first
      | (go_at_call 83; refine H.mono ?_; clear H; rintro e w1 ⟨rfl, hp1, hs1⟩))
    go_end0
    exact ⟨rfl, HP.out.step hp1 hs1, hs1⟩
  by_cases k1 : t.k = 1
  · have hs : t.say = quo t.l := by unfold Th.say; rw [if_neg k0, if_pos k1]
    have hv : thV t = .iface 9 (.string (bs t.l)) := by unfold thV; rw [if_neg k0, if_pos k1]
    rw [hs, hv]
    have H := quoted_in h t.l (by omega)
    clear h hs hv hsl k0 k1
    have t1 := ta_sw (.string (bs t.l)) w
    have t2 := ta_ss (.string (bs t.l)) w
    go_enter Tryz.func39, Tryz.ntmps39
    go_wp2_with (first
      | (go_at_call 84; refine H.mono ?_; clear H; rintro e w1 ⟨rfl, hp1, hs1⟩))
    go_end0
    exact ⟨rfl, hp1, hs1⟩
  have hs : t.say = Lib.itoa t.n := by unfold Th.say; rw [if_neg k0, if_neg k1]
  rw [hs] at hsl ⊢
  by_cases k2 : t.k = 2
  · have hv : thV t = .iface 3 (.int .i64 t.n) := by unfold thV; rw [if_neg k0, if_neg k1, if_pos k2]
    rw [hv]
    have HI := fun (W : World) (hW : Below w.heap.size w W) => (Tryz.strconv_Itoa t.n hn0 hn1 W (tab.below (h.bel.trans (hW.mono h.bel.size)))).mono (R' := fun e w' => e = .returned (.string (bs (Lib.itoa t.n))) ∧ Below W.heap.size W w') (fun e w' hh => ⟨hh.1, by obtain ⟨k, os, e⟩ := hh.2; rw [e]; exact grow_below' W k os⟩)
    have H := fun (W : World) (hW : Below w.heap.size w W) => pgWrite_in (h.below hW).pg (h.below hW).bel.size (Lib.itoa t.n) (by omega)
    have HB0 : Below w.heap.size w w := Below.refl _ _
    have HB1 : Below w.heap.size w w.drew := below_drew HB0
    have t1 := ta_iw (.int .i64 t.n) w
    have t2 := ta_is (.int .i64 t.n) w
    have t3 := ta_ii (.int .i64 t.n) w
    clear hs hv k0 k1 k2 h hsl
    go_enter Tryz.func39, Tryz.ntmps39
    go_wp2
    go_region_with (first
      | (go_at_call 85; (with_reducible first | refine (HI _ HB0).mono ?_ | refine (HI _ HB1).mono ?_); rintro e w1 ⟨rfl, hB1⟩; have hC1 : Below w.heap.size w w1 := by first | exact hB1 | exact HB1.trans hB1)
      | (go_at_call 83; (with_reducible refine (H _ hC1).mono ?_); rintro e w2 ⟨rfl, hp2, hs2⟩))
    all_goals
      go_wp2
      go_end0
      exact ⟨rfl, (HP.out.below hC1).step hp2 hs2, (PStep.of_below hC1 HP.out.bel.size).trans hs2⟩
  · have hv : thV t = .iface 2 (.int .i64 t.n) := by unfold thV; rw [if_neg k0, if_neg k1, if_neg k2]
    rw [hv]
    have HI := fun (W : World) (hW : Below w.heap.size w W) => (Tryz.strconv_FormatInt_10 t.n hn0 hn1 W (tab.below (h.bel.trans (hW.mono h.bel.size)))).mono (R' := fun e w' => e = .returned (.string (bs (Lib.itoa t.n))) ∧ Below W.heap.size W w') (fun e w' hh => ⟨hh.1, by obtain ⟨k, os, e⟩ := hh.2; rw [e]; exact grow_below' W k os⟩)
    have H := fun (W : World) (hW : Below w.heap.size w W) => pgWrite_in (h.below hW).pg (h.below hW).bel.size (Lib.itoa t.n) (by omega)
    have HB0 : Below w.heap.size w w := Below.refl _ _
    have HB1 : Below w.heap.size w w.drew := below_drew HB0
    have t1 := ta_lw (.int .i64 t.n) w
    have t2 := ta_ls (.int .i64 t.n) w
    have t3 := ta_li (.int .i64 t.n) w
    have t4 := ta_ll (.int .i64 t.n) w
    clear hs hv k0 k1 k2 h hsl
    go_enter Tryz.func39, Tryz.ntmps39
    go_wp2
    go_region_with (first
      | (go_at_call 86; (with_reducible first | refine (HI _ HB0).mono ?_ | refine (HI _ HB1).mono ?_); rintro e w1 ⟨rfl, hB1⟩; have hC1 : Below w.heap.size w w1 := by first | exact hB1 | exact HB1.trans hB1)
      | (go_at_call 83; (with_reducible refine (H _ hC1).mono ?_); rintro e w2 ⟨rfl, hp2, hs2⟩))
    all_goals
      go_wp2
      go_end0
      exact ⟨rfl, (HP.out.below hC1).step hp2 hs2, (PStep.of_below hC1 HP.out.bel.size).trans hs2⟩

end Lk

end Go.Proofs.YtnekcomkochmjaaGreatDoor

namespace Go.Proofs.YtnekcomkochmjaaGreatDoor
set_option linter.unusedVariables false
set_option linter.unusedSimpArgs false
open Go.RowKit

namespace Lk

variable {w : World}

/-- How much room a line's things may take. -/
def wide (l : List Th) : Nat := (l.map fun t => 2 * t.l.length + 22).sum

theorem wide_take (l : List Th) (i : Nat) : wide (l.take i) ≤ wide l := by
  induction l generalizing i with
  | nil => simp [wide]
  | cons a r ih =>
    cases i with
    | zero => simp [wide]
    | succ i => have := ih i; simp [wide] at this ⊢; omega

theorem wide_at {l : List Th} {i : Nat} {t : Th} (h : l[i]? = some t) : wide (l.take i) + (2 * t.l.length + 22) ≤ wide l := by
  induction l generalizing i with
  | nil => simp at h
  | cons a r ih =>
    cases i with
    | zero => simp at h; subst h; simp [wide]
    | succ i => have := ih (by simpa using h); simp [wide] at this ⊢; omega

set_option maxRecDepth 20000 in
set_option maxHeartbeats 4000000 in
theorem line_in {w0 : World} {bp g cap : Nat} {l : List UInt8} (ths : List Th) (h : Pg w0 bp l w) (hg : w.heap[g]? = some (.cells (ths.map thV).toArray 20 (0, 0))) (hgb : g ≠ bp) (hf : ∀ t ∈ ths, t.fits) (hn : ths.length ≤ 8) (hl : l.length + wide ths + 1 ≤ 67108864) (tab : Tab w0) :
    Calls Tryz.prog 22 #[.pointer (some ⟨bp, 0, none⟩), .slice (some ⟨g, 0, none⟩) ths.length cap] w fun e w' => e = .returned (.tuple #[]) ∧ Pg w0 bp (l ++ lineP ths) w' ∧ PStep w0.heap.size bp w w' := by
  have HP : Hid _ := h
  have HG : Hid _ := hg
  have HF : Hid _ := hf
  clear h hg hf
  go_enter Tryz.func22, Tryz.ntmps22
  go_wp2
  go_loopw [8] (fun k wr => ∃ i : Nat, k = .int .i64 i ∧ i ≤ ths.length ∧ Pg w0 bp (l ++ said (ths.take i)) wr ∧ PStep w0.heap.size bp w wr) (fun k _ => ths.length - (intOf k).toNat)
  case atStart => exact ⟨0, rfl, by omega, by simpa [said] using HP.out, PStep.refl _ _ _⟩
  case round =>
    obtain ⟨i, rfl, hi, hp, hs⟩ := hrel
    have hgr : wr.heap[g]? = some (.cells (ths.map thV).toArray 20 (0, 0)) := (hs.box g _ 20 _ HG.out (by decide) hgb).trans HG.out
    by_cases hin : i < ths.length
    · have hin' : (i : Int) < (ths.length : Int) := by omega
      obtain ⟨t, ht⟩ : ∃ t, ths[i]? = some t := ⟨ths[i], by simp⟩
      have hc : wr.cell? ⟨g, i, none⟩ = some (thV t) := by rw [cell_of_row wr g i _ _ _ hgr]; simp [ht]
      have hsd := said_len (l := ths.take i) (fun x hx => HF.out x (List.mem_of_mem_take hx))
      have hwa := wide_at ht
      have hlm : (l ++ said (ths.take i)).length + 1 + (2 * t.l.length + 22) ≤ 67108864 := by simp only [List.length_append]; unfold wide at hwa hl; omega
      have hft := HF.out t (List.mem_of_getElem? ht)
      have htk : ths.take (i + 1) = ths.take i ++ [t] := by rw [List.take_add_one, ht]; rfl
      have HTK : Hid _ := htk
      have HS : Hid _ := hs
      have HPr : Hid _ := hp
      clear ht hsd hwa htk hgr
      rcases Nat.eq_zero_or_pos i with h0 | h0
      · subst h0
        have A := thing_in hp t hft (by omega) tab
        clear hp hs
        go_wp2_with (first
          | (go_at_call 39; (with_reducible refine A.mono ?_); clear A; rintro e w1 ⟨rfl, hp1, hs1⟩))
        go_roundw
        case rel =>
          refine ⟨1, rfl, by omega, ?_, HS.out.trans hs1⟩
          have e1 := HTK.out
          simp only [Nat.zero_add] at e1
          rw [e1]
          simpa [said, more] using hp1
        case measure => simp [intOf]; omega
      · have h0' : (0 : Int) < (i : Int) := by omega
        have A0 : Calls Tryz.prog 38 #[.pointer (some ⟨bp, 0, none⟩), .int .u8 32] wr fun e w' => e = .returned .nilIface ∧ IsPg w0.heap.size bp ((l ++ said (ths.take i)) ++ [32]) w' ∧ PStep w0.heap.size bp wr w' := pgByte_in hp.pg hp.bel.size 32 (by omega)
        clear hp hs
        go_wp2_with (first
          | (go_at_call 38; (with_reducible refine A0.mono ?_); clear A0; rintro e w1 ⟨rfl, hp1, hs1⟩; have A := thing_in (HPr.out.step hp1 hs1) t hft (by simp only [List.length_append, List.length_cons, List.length_nil] at hlm ⊢; omega) tab)
          | (go_at_call 39; (with_reducible refine A.mono ?_); clear A; rintro e w2 ⟨rfl, hp2, hs2⟩))
        go_roundw
        case rel =>
          refine ⟨i + 1, by simp, by omega, ?_, (HS.out.trans hs1).trans hs2⟩
          rw [HTK.out, said_snoc _ _ (by intro e; have := congrArg List.length e; simp only [List.length_take, List.length_nil] at this; omega)]
          simpa using hp2
        case measure => simp [intOf]; omega
    · have hin' : ¬ ((i : Int) < (ths.length : Int)) := by omega
      have he : ths.take i = ths := List.take_of_length_le (by omega)
      rw [he] at hp
      have hsd := said_len HF.out
      have A0 : Calls Tryz.prog 38 #[.pointer (some ⟨bp, 0, none⟩), .int .u8 10] wr fun e w' => e = .returned .nilIface ∧ IsPg w0.heap.size bp ((l ++ said ths) ++ [10]) w' ∧ PStep w0.heap.size bp wr w' := pgByte_in hp.pg hp.bel.size 10 (by simp only [List.length_append]; unfold wide at hl; omega)
      have HPr : Hid _ := hp
      have HS : Hid _ := hs
      clear hp hs hgr he
      go_wp2_with (first
        | (go_at_call 38; (with_reducible refine A0.mono ?_); clear A0; rintro e w1 ⟨rfl, hp1, hs1⟩))
      go_end0
      refine ⟨rfl, ?_, HS.out.trans hs1⟩
      have := HPr.out.step hp1 hs1
      simpa [lineP] using this

/-- A line of things that were just put into a row. -/
theorem line_new {w0 W : World} {bp cap : Nat} {l : List UInt8} (ths : List Th) (h : Pg w0 bp l W) (hf : ∀ t ∈ ths, t.fits) (hn : ths.length ≤ 8) (hl : l.length + wide ths + 1 ≤ 67108864) (tab : Tab w0) (w' : World) (hw : w' = W.alloc (.cells (ths.map thV).toArray 20) ∨ w' = (W.alloc (.cells (ths.map thV).toArray 20)).drew) :
    Calls Tryz.prog 22 #[.pointer (some ⟨bp, 0, none⟩), .slice (some ⟨W.heap.size, 0, none⟩) ths.length cap] w' fun e w2 => e = .returned (.tuple #[]) ∧ Pg w0 bp (l ++ lineP ths) w2 ∧ PStep w0.heap.size bp w' w2 := by
  have hb := below1 W (.cells (ths.map thV).toArray 20)
  have hlt := h.pg.lt
  rcases hw with rfl | rfl
  · exact line_in ths (h.below hb) (heap_alloc_new W _) (by omega) hf hn hl tab
  · exact line_in ths (h.below (below_drew hb)) (heap_alloc_new W _) (by omega) hf hn hl tab

end Lk

end Go.Proofs.YtnekcomkochmjaaGreatDoor

namespace Go.Proofs.YtnekcomkochmjaaGreatDoor
set_option linter.unusedVariables false
set_option linter.unusedSimpArgs false
open Go.RowKit

namespace Lk

variable {w : World}

set_option maxHeartbeats 4000000 in
theorem hasNumber_in (op : Nat) (ho : op < 256) (w : World) : Calls Tryz.prog 40 #[.int .u8 op] w fun e w' => e = .returned (.bool (numb op)) ∧ w' = w := by
  by_cases hn : op = 1 ∨ op = 5 ∨ op = 6 ∨ op = 7 ∨ op = 8 ∨ op = 9 ∨ op = 10 ∨ op = 11 ∨ op = 19 ∨ op = 20 ∨ op = 21 ∨ op = 22 ∨ op = 23 ∨ op = 26 ∨ op = 27
  · rcases hn with rfl | rfl | rfl | rfl | rfl | rfl | rfl | rfl | rfl | rfl | rfl | rfl | rfl | rfl | rfl
    all_goals
      go_enter Tryz.func40, Tryz.ntmps40
      go_wp2
      go_ret
      exact ⟨rfl, rfl⟩
  · have e : numb op = false := by unfold numb; simp; omega
    rw [e]
    have n1 : ((op : Int) == 1) = false := by simp; omega
    have n5 : ((op : Int) == 5) = false := by simp; omega
    have n6 : ((op : Int) == 6) = false := by simp; omega
    have n7 : ((op : Int) == 7) = false := by simp; omega
    have n8 : ((op : Int) == 8) = false := by simp; omega
    have n9 : ((op : Int) == 9) = false := by simp; omega
    have n10 : ((op : Int) == 10) = false := by simp; omega
    have n11 : ((op : Int) == 11) = false := by simp; omega
    have n19 : ((op : Int) == 19) = false := by simp; omega
    have n20 : ((op : Int) == 20) = false := by simp; omega
    have n21 : ((op : Int) == 21) = false := by simp; omega
    have n22 : ((op : Int) == 22) = false := by simp; omega
    have n23 : ((op : Int) == 23) = false := by simp; omega
    have n26 : ((op : Int) == 26) = false := by simp; omega
    have n27 : ((op : Int) == 27) = false := by simp; omega
    clear e hn
    go_enter Tryz.func40, Tryz.ntmps40
    go_wp2
    go_ret
    exact ⟨rfl, rfl⟩

def strC (x : List UInt8) : List Value := [.string (bs x)]

/-- The tables of words as they are laid. -/
structure WordsT (w : World) : Prop where
  ops : RowAt strC 1 w (some ⟨0, 0, none⟩) opsL
  bins : RowAt strC 1 w (some ⟨1, 0, none⟩) binsL

theorem WordsT.below (h : WordsT w) {w' : World} (hB : Below w.heap.size w w') : WordsT w' := ⟨h.ops.below hB, h.bins.below hB⟩

theorem WordsT.op (h : WordsT w) {w' : World} (hB : Below w.heap.size w w') {op : Nat} (ho : op < 31) : w'.cell? ⟨0, op, none⟩ = some (.string (bs (opsL.getD op []))) := by
  have h31 : op < opsL.length := ho
  obtain ⟨b0, off, e, h1⟩ := h.ops.look hB (j := op) (x := opsL.getD op []) (by rw [List.getD_eq_getElem?_getD]; simp [h31])
  simp only [Option.some.injEq, Addr.mk.injEq] at e
  obtain ⟨rfl, rfl, _⟩ := e
  have := h1 0 _ rfl
  simpa using this

theorem WordsT.bin (h : WordsT w) {w' : World} (hB : Below w.heap.size w w') {op : Nat} (ho : op < 10) : w'.cell? ⟨1, op, none⟩ = some (.string (bs (binsL.getD op []))) := by
  have h31 : op < binsL.length := ho
  obtain ⟨b0, off, e, h1⟩ := h.bins.look hB (j := op) (x := binsL.getD op []) (by rw [List.getD_eq_getElem?_getD]; simp [h31])
  simp only [Option.some.injEq, Addr.mk.injEq] at e
  obtain ⟨rfl, rfl, _⟩ := e
  have := h1 0 _ rfl
  simpa using this

/-- An instruction that can be told. -/
structure InsOk (ln : Int) (i : In) : Prop where
  ln : -9223372036854775808 ≤ ln ∧ ln ≤ 9223372036854775807
  op : i.op < 31
  a : -9223372036854775808 ≤ i.a ∧ i.a ≤ 9223372036854775807
  bin : i.op = 14 → 0 ≤ i.a ∧ i.a < 10

theorem opsL_len (op : Nat) : (opsL.getD op []).length ≤ 9 := by
  by_cases h : op < 31
  · have : ∀ k : Fin 31, (opsL.getD k.1 []).length ≤ 9 := by decide
    exact this ⟨op, h⟩
  · rw [List.getD_eq_getElem?_getD, List.getElem?_eq_none (by have : opsL.length = 31 := rfl; omega)]; simp

theorem binsL_len (op : Nat) : (binsL.getD op []).length ≤ 9 := by
  by_cases h : op < 10
  · have : ∀ k : Fin 10, (binsL.getD k.1 []).length ≤ 9 := by decide
    exact this ⟨op, h⟩
  · rw [List.getD_eq_getElem?_getD, List.getElem?_eq_none (by have : binsL.length = 10 := rfl; omega)]; simp

theorem insT_fits {ln : Int} {i : In} (h : InsOk ln i) : ∀ t ∈ insT ln i, t.fits := by
  have := h.ln
  have := h.a
  unfold insT
  intro t ht
  split at ht
  · simp at ht
    rcases ht with rfl | rfl | rfl <;> simp [Th.fits, nm, wd] <;> omega
  · split at ht
    · simp at ht
      rcases ht with rfl | rfl | rfl <;> simp [Th.fits, nm, wd] <;> omega
    · simp at ht
      rcases ht with rfl | rfl <;> simp [Th.fits, nm, wd] <;> omega

theorem insT_wide (ln : Int) (i : In) : wide (insT ln i) ≤ 102 := by
  have h1 := opsL_len i.op
  have h2 := binsL_len i.a.toNat
  simp only [List.getD_eq_getElem?_getD] at h1 h2
  unfold insT wide
  split
  · simp [nm, wd]; omega
  · split
    · simp [nm, wd]; omega
    · simp [nm, wd]; omega

set_option maxRecDepth 20000 in
set_option maxHeartbeats 4000000 in
theorem ins_in {w0 : World} {bp : Nat} {l : List UInt8} (h : Pg w0 bp l w) (ln : Int) (i : In) (hok : InsOk ln i) (hl : l.length + wide (insT ln i) + 1 ≤ 67108864) (tab : Tab w0) (hw : WordsT w0) :
    Calls Tryz.prog 23 #[.pointer (some ⟨bp, 0, none⟩), .int .i64 ln, .agg #[.int .u8 i.op, .int .i64 i.a]] w fun e w' => e = .returned (.tuple #[]) ∧ Pg w0 bp (l ++ lineP (insT ln i)) w' ∧ PStep w0.heap.size bp w w' := by
  have hfit := insT_fits hok
  have hlt := h.pg.lt
  obtain ⟨op, a⟩ := i
  simp only at *
  have ho := hok.op
  simp only at ho
  have HN := hasNumber_in op (by omega)
  have hB1 := below1 w (.cells #[.int .u8 op, .int .i64 a] 38)
  have hbw := h.bel.trans (hB1.mono h.bel.size)
  have PS1 : Hid (∀ o : Obj, PStep w0.heap.size bp w ((w.alloc (.cells #[.int .u8 op, .int .i64 a] 38)).alloc o)) := fun o => (PStep.of_below hB1 h.bel.size).trans (PStep.of_below (below1 _ o) (Nat.le_trans h.bel.size hB1.size))
  have PS2 : Hid (∀ o : Obj, PStep w0.heap.size bp w ((w.alloc (.cells #[.int .u8 op, .int .i64 a] 38)).alloc o).drew) := fun o => (PS1.out o).trans (PStep.of_below (below_drew (Below.refl _ _)) (Nat.le_trans (Nat.le_trans h.bel.size hB1.size) (below1 _ o).size))
  have c0 := hw.op hbw ho
  have hnew := heap_alloc_new w (.cells #[.int .u8 op, .int .i64 a] 38)
  obtain ⟨⟨d0, d1⟩, -⟩ := cell_row2 hnew
  have hbb := fun (o : Obj) => hbw.trans ((below1 (w.alloc (.cells #[.int .u8 op, .int .i64 a] 38)) o).mono hbw.size)
  have cb := fun (o : Obj) => hw.op (hbb o) ho
  have cw := fun (W : World) (hW : Below w0.heap.size w0 W) => hw.op hW ho
  have db := fun (o : Obj) => cell_row2 ((Below.heap_alloc (w.alloc (.cells #[.int .u8 op, .int .i64 a] 38)) o w.heap.size (by simp)).trans hnew)
  have HL := fun (cap : Nat) (ths : List Th) => line_new (cap := cap) ths (h.below hB1)
  by_cases h14 : op = 14
  · subst h14
    simp only [show ((14 : Nat) : Int) = 14 from rfl] at *
    obtain ⟨A, rfl⟩ : ∃ A : Nat, a = A := ⟨a.toNat, by have := hok.bin rfl; simp only at this; omega⟩
    have hA := (hok.bin rfl).2
    simp only at hA
    have c1 := hw.bin hbw (op := A) (by omega)
    have c1w := fun (W : World) (hW : Below w0.heap.size w0 W) => hw.bin hW (op := A) (by omega)
    have c1b := fun (o : Obj) => hw.bin (hbb o) (op := A) (by omega)
    have e : insT ln ⟨14, A⟩ = [nm ln, wd (opsL.getD 14 []), wd (binsL.getD A [])] := rfl
    rw [e] at hfit hl ⊢
    generalize opsL.getD 14 [] = so at *
    generalize binsL.getD A [] = sb at *
    clear e
    have HC : Calls Tryz.prog 22 #[.pointer (some ⟨bp, 0, none⟩), .slice (some ⟨w.heap.size + 1, 0, none⟩) 3 3] (((w.alloc (.cells #[.int .u8 14, .int .i64 A] 38)).alloc (.cells #[.iface 3 (.int .i64 ln), .iface 70 (.string (bs so)), .iface 70 (.string (bs sb))] 20)).drew) fun e w2 => e = .returned (.tuple #[]) ∧ Pg w0 bp (l ++ lineP [nm ln, wd so, wd sb]) w2 ∧ PStep w0.heap.size bp (((w.alloc (.cells #[.int .u8 14, .int .i64 A] 38)).alloc (.cells #[.iface 3 (.int .i64 ln), .iface 70 (.string (bs so)), .iface 70 (.string (bs sb))] 20)).drew) w2 := by
      have H := HL 3 [nm ln, wd so, wd sb] hfit (by simp) (by omega) tab _ (.inr rfl)
      rw [show (w.alloc (.cells #[.int .u8 14, .int .i64 A] 38)).heap.size = w.heap.size + 1 by simp] at H
      exact H
    have hkb := (Below.heap_alloc (w.alloc (.cells #[.int .u8 14, .int .i64 A] 38)) (.cells #[.iface 3 (.int .i64 ln), .iface 70 (.string (bs so)), .iface 70 (.string (bs sb))] 20) w.heap.size (by simp)).trans hnew
    have hne : w.heap.size ≠ bp := by omega
    clear hok HN HL
    go_enter Tryz.func23, Tryz.ntmps23
    go_wp2
    go_region_held3 (fun W => W.cell? ⟨0, 14, none⟩ = some (.string (bs so)) ∧ W.cell? ⟨1, A, none⟩ = some (.string (bs sb)) ∧ W.cell? ⟨w.heap.size, 0, none⟩ = some (.int .u8 14) ∧ W.cell? ⟨w.heap.size, 1, none⟩ = some (.int .i64 A)) (first | exact ⟨c0, c1, d0, d1⟩ | exact ⟨cb _, c1b _, (db _).1.1, (db _).1.2⟩ | exact s9 | go_keep) (first
      | (go_at_call 22; refine HC.mono ?_; rintro e w9 ⟨rfl, hp9, hs9⟩; have k9 := cell_row2 ((hs9.box w.heap.size _ 38 _ hkb (by decide) hne).trans hkb); have s9 : w9.cell? ⟨0, 14, none⟩ = some (.string (bs so)) ∧ w9.cell? ⟨1, A, none⟩ = some (.string (bs sb)) ∧ w9.cell? ⟨w.heap.size, 0, none⟩ = some (.int .u8 14) ∧ w9.cell? ⟨w.heap.size, 1, none⟩ = some (.int .i64 A) := ⟨cw _ hp9.bel, c1w _ hp9.bel, k9.1.1, k9.1.2⟩))
    all_goals
      go_wp2
      go_end0
      exact ⟨rfl, hp9, (PS2.out _).trans hs9⟩
  have h14' : ((op : Int) == 14) = false := by simp; omega
  by_cases hnb : numb op = true
  · have e : insT ln ⟨op, a⟩ = [nm ln, wd (opsL.getD op []), nm a] := by unfold insT; rw [if_neg h14, if_pos hnb]
    rw [e] at hfit hl ⊢
    rw [hnb] at HN
    generalize opsL.getD op [] = so at *
    clear e hnb
    have HC : Calls Tryz.prog 22 #[.pointer (some ⟨bp, 0, none⟩), .slice (some ⟨w.heap.size + 1, 0, none⟩) 3 3] (((w.alloc (.cells #[.int .u8 op, .int .i64 a] 38)).alloc (.cells #[.iface 3 (.int .i64 ln), .iface 70 (.string (bs so)), .iface 3 (.int .i64 a)] 20)).drew) fun e w2 => e = .returned (.tuple #[]) ∧ Pg w0 bp (l ++ lineP [nm ln, wd so, nm a]) w2 ∧ PStep w0.heap.size bp (((w.alloc (.cells #[.int .u8 op, .int .i64 a] 38)).alloc (.cells #[.iface 3 (.int .i64 ln), .iface 70 (.string (bs so)), .iface 3 (.int .i64 a)] 20)).drew) w2 := by
      have H := HL 3 [nm ln, wd so, nm a] hfit (by simp) (by omega) tab _ (.inr rfl)
      rw [show (w.alloc (.cells #[.int .u8 op, .int .i64 a] 38)).heap.size = w.heap.size + 1 by simp] at H
      exact H
    have hkb := (Below.heap_alloc (w.alloc (.cells #[.int .u8 op, .int .i64 a] 38)) (.cells #[.iface 3 (.int .i64 ln), .iface 70 (.string (bs so)), .iface 3 (.int .i64 a)] 20) w.heap.size (by simp)).trans hnew
    have hne : w.heap.size ≠ bp := by omega
    have ho31 : (op : Int) < 31 := by omega
    clear hok HL
    go_enter Tryz.func23, Tryz.ntmps23
    go_wp2_with (first | (go_at_call 40; refine (HN _).mono ?_; rintro e w1 ⟨rfl, rfl⟩))
    go_region_held3 (fun W => W.cell? ⟨0, op, none⟩ = some (.string (bs so)) ∧ W.cell? ⟨w.heap.size, 0, none⟩ = some (.int .u8 op) ∧ W.cell? ⟨w.heap.size, 1, none⟩ = some (.int .i64 a)) (first | exact ⟨c0, d0, d1⟩ | exact ⟨cb _, (db _).1.1, (db _).1.2⟩ | exact s9 | go_keep) (first
      | (go_at_call 22; refine HC.mono ?_; rintro e w9 ⟨rfl, hp9, hs9⟩; have k9 := cell_row2 ((hs9.box w.heap.size _ 38 _ hkb (by decide) hne).trans hkb); have s9 : w9.cell? ⟨0, op, none⟩ = some (.string (bs so)) ∧ w9.cell? ⟨w.heap.size, 0, none⟩ = some (.int .u8 op) ∧ w9.cell? ⟨w.heap.size, 1, none⟩ = some (.int .i64 a) := ⟨cw _ hp9.bel, k9.1.1, k9.1.2⟩))
    all_goals
      go_wp2
      go_end0
      exact ⟨rfl, hp9, (PS2.out _).trans hs9⟩
  · have e : insT ln ⟨op, a⟩ = [nm ln, wd (opsL.getD op [])] := by unfold insT; rw [if_neg h14, if_neg hnb]
    rw [e] at hfit hl ⊢
    rw [Bool.not_eq_true] at hnb
    rw [hnb] at HN
    generalize opsL.getD op [] = so at *
    clear e hnb
    have ho31 : (op : Int) < 31 := by omega
    have HC : Calls Tryz.prog 22 #[.pointer (some ⟨bp, 0, none⟩), .slice (some ⟨w.heap.size + 1, 0, none⟩) 2 2] ((w.alloc (.cells #[.int .u8 op, .int .i64 a] 38)).alloc (.cells #[.iface 3 (.int .i64 ln), .iface 70 (.string (bs so))] 20)) fun e w2 => e = .returned (.tuple #[]) ∧ Pg w0 bp (l ++ lineP [nm ln, wd so]) w2 ∧ PStep w0.heap.size bp ((w.alloc (.cells #[.int .u8 op, .int .i64 a] 38)).alloc (.cells #[.iface 3 (.int .i64 ln), .iface 70 (.string (bs so))] 20)) w2 := by
      have H := HL 2 [nm ln, wd so] hfit (by simp) (by omega) tab _ (.inl rfl)
      rw [show (w.alloc (.cells #[.int .u8 op, .int .i64 a] 38)).heap.size = w.heap.size + 1 by simp] at H
      exact H
    clear hok HL
    go_enter Tryz.func23, Tryz.ntmps23
    go_wp2_with (first
      | (go_at_call 40; refine (HN _).mono ?_; rintro e w1 ⟨rfl, rfl⟩)
      | (go_at_call 22; refine HC.mono ?_; rintro e w9 ⟨rfl, hp9, hs9⟩))
    go_end0
    exact ⟨rfl, hp9, (PS1.out _).trans hs9⟩

end Lk

end Go.Proofs.YtnekcomkochmjaaGreatDoor
