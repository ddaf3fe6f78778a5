/- listing's line: what a backslash tells. -/
import Derived.Test.YtnekcomkochmjaaGreatDoorLpIns
import Derived.Lib.AppendStr
import Derived.Lib.UnsafeStr
import Derived.Lib.Builder
import Derived.Deep.AppendLies
import Derived.Lib.IndexAny
import Derived.Test.YtnekcomkochmjaaGreatDoorVfFn
namespace Go.Proofs.YtnekcomkochmjaaGreatDoor
set_option linter.unusedVariables false
set_option linter.unusedSimpArgs false
open Go.RowKit

namespace Lp
open Lk

variable {w : World}

/-- The byte that is told by the one behind a backslash; what is left. -/
def escV : List UInt8 → UInt8
  | [] => 0
  | c :: _ => if c = 110 then 10 else c

def Ln.escd (l : Ln) : Ln := match l.rest with
  | [] => ⟨[], true⟩
  | c :: r => if c = 110 then ⟨r, l.wrong⟩ else Ln.want ⟨r, l.wrong⟩ (decide (c = 34 ∨ c = 92))

theorem escd_len (l : Ln) : l.escd.rest.length ≤ l.rest.length := by
  unfold Ln.escd
  cases h : l.rest with
  | nil => simp
  | cons c r =>
    simp only
    split <;> simp [Ln.want]

theorem eq110 {c : UInt8} : c = 110 ↔ c.toNat = 110 := ⟨fun h => by rw [h]; rfl, fun h => UInt8.toNat_inj.1 h⟩

set_option maxRecDepth 20000 in
set_option maxHeartbeats 4000000 in
theorem escaped_in {b : Nat} {l : Ln} (h : IsLn b l w) (hl : l.rest.length ≤ 1048576) :
    Calls Tryz.prog 98 #[.pointer (some ⟨b, 0, none⟩)] w fun e w' => e = .returned (.int .u8 (escV l.rest).toNat) ∧ IsLn b l.escd w' ∧ Rst b w w' := by
  obtain ⟨⟨c0, c1⟩, f0, f1⟩ := cell_row2 h
  obtain ⟨rest, wrong⟩ := l
  cases rest with
  | nil =>
    have h1 := h.setWrong true
    have HL : Hid _ := h1
    clear h h1
    have e2 : bs [] = ⟨#[]⟩ := rfl
    simp only [e2] at c0
    clear e2
    go_enter Tryz.func98, Tryz.ntmps98
    go_wp2
    go_ret
    exact ⟨rfl, HL.out, (Rst.refl _ _).set _⟩
  | cons c r =>
    simp only at c0 c1 hl
    have hsz : (bs (c :: r)).size = r.length + 1 := by rw [bs_size]; simp
    have h0s : 0 < (bs (c :: r)).size := by omega
    have hg : (bs (c :: r))[0]'h0s = c := by have := bs_get (l := c :: r) h0s; simp at this; exact this.symm
    have hfr := bs_from (c :: r) 1
    simp only [List.drop_succ_cons, List.drop_zero, List.length_cons] at hfr
    have e4 : ((bs (c :: r)).toList == ([] : List UInt8)) = false := by rw [bs_toList]; rfl
    have h1 := h.setRest r
    have HL : Hid _ := h1
    have HW := fun (x : Bool) => want_in h1 x
    have s0 : Rst b w (w.setCell ⟨b, 0, none⟩ (.string (bs r))) := (Rst.refl _ _).set _
    clear h h1
    by_cases k1 : c.toNat = 110
    · have hk1 : ((c.toNat : Int)) = 110 := by omega
      have eV : escV (c :: r) = 10 := by simp only [escV]; rw [if_pos (eq110.2 k1)]
      have eD : (⟨c :: r, wrong⟩ : Ln).escd = ⟨r, wrong⟩ := by unfold Ln.escd; simp only; rw [if_pos (eq110.2 k1)]
      rw [eD]
      simp only
      rw [eV]
      clear eV eD k1
      go_enter Tryz.func98, Tryz.ntmps98
      go_wp2
      go_ret
      exact ⟨rfl, HL.out, s0⟩
    have hk1 : ¬ ((c.toNat : Int) = 110) := by omega
    have eV : escV (c :: r) = c := by simp only [escV]; rw [if_neg (fun e => k1 (eq110.1 e))]
    have eD : (⟨c :: r, wrong⟩ : Ln).escd = Ln.want ⟨r, wrong⟩ (decide (c = 34 ∨ c = 92)) := by unfold Ln.escd; simp only; rw [if_neg (fun e => k1 (eq110.1 e))]
    rw [eD]
    simp only
    rw [eV]
    clear eV eD
    by_cases k2 : c.toNat = 34 ∨ c.toNat = 92
    · rw [decide_eq_true (show c = 34 ∨ c = 92 from k2.imp eq34.2 eq92.2)]
      have HW' := HW true
      rcases k2 with k2 | k2
      · obtain rfl : c = 34 := eq34.2 k2
        clear k1 k2 HW hk1
        simp only [show (((34 : UInt8).toNat : Nat) : Int) = 34 from rfl]
        go_enter Tryz.func98, Tryz.ntmps98
        go_wp2_with (first
          | (go_at_call 101; refine HW'.mono ?_; clear HW'; rintro e w2 ⟨rfl, hl2, hr2⟩))
        go_ret
        exact ⟨rfl, hl2, s0.trans hr2⟩
      · obtain rfl : c = 92 := eq92.2 k2
        clear k1 k2 HW hk1
        simp only [show (((92 : UInt8).toNat : Nat) : Int) = 92 from rfl]
        go_enter Tryz.func98, Tryz.ntmps98
        go_wp2_with (first
          | (go_at_call 101; refine HW'.mono ?_; clear HW'; rintro e w2 ⟨rfl, hl2, hr2⟩))
        go_ret
        exact ⟨rfl, hl2, s0.trans hr2⟩
    · have HW' := HW false
      rw [decide_eq_false (show ¬ (c = 34 ∨ c = 92) from fun e => k2 (e.imp eq34.1 eq92.1))]
      have hk2 : ¬ ((c.toNat : Int) = 34) := by omega
      have hk3 : ¬ ((c.toNat : Int) = 92) := by omega
      have hb2 : ((c.toNat : Int) == 34) = false := by rw [beq_eq_false_iff_ne]; exact hk2
      have hb3 : ((c.toNat : Int) == 92) = false := by rw [beq_eq_false_iff_ne]; exact hk3
      have hb4 : ((c.toNat : Int) == 110) = false := by rw [beq_eq_false_iff_ne]; exact hk1
      clear k1 k2 HW
      go_enter Tryz.func98, Tryz.ntmps98
      go_wp2_with (first
        | (go_at_call 101; refine HW'.mono ?_; clear HW'; rintro e w2 ⟨rfl, hl2, hr2⟩))
      go_ret
      exact ⟨rfl, hl2, s0.trans hr2⟩

end Lp

end Go.Proofs.YtnekcomkochmjaaGreatDoor

namespace Go.Proofs.YtnekcomkochmjaaGreatDoor
set_option linter.unusedVariables false
set_option linter.unusedSimpArgs false
open Go.RowKit

namespace Lp
open Lk (bs bs_size bs_list)

variable {w : World}

/-- A builder in memory: its bytes. -/
structure IsBd (n₀ bp : Nat) (l : List UInt8) (w : World) : Prop where
  base : n₀ ≤ bp
  all : ∃ ad vb, w.heap[bp]? = some (.cells #[ad, vb] 50 (0, 0)) ∧ (ad = .pointer none ∨ ad = .pointer (some ⟨bp, 0, none⟩)) ∧ w.ownsRow n₀ 5 1 vb l.length (Lib.byteCells l) ∧ (l = [] → vb = .slice none 0 0)

theorem IsBd.lt {n₀ bp : Nat} {l : List UInt8} (h : IsBd n₀ bp l w) : bp < w.heap.size := by
  obtain ⟨ad, vb, hb, _⟩ := h.all
  exact (Array.getElem?_eq_some_iff.1 hb).1

theorem infoBuilder : (Tryz.prog.info? 50).map (·.size) = some 2 := by kernel_rfl

theorem liesBuilder : liesAt Tryz.prog Tryz.prog.depth 50 (2 / Tryz.prog.cellsOf 50) 0 50 1 = true := by kernel_rfl

theorem infoU8 : (Tryz.prog.info? 5).map (fun i => (i.zero, i.size, i.bytes)) = some (some (.int .u8 0), 1, 1) := by kernel_rfl

theorem info_partsB {P : Program} {t : TypeId} {z : Value} {s b : Nat} (h : (P.info? t).map (fun i => (i.zero, i.size, i.bytes)) = some (some z, s, b)) : ∃ i, P.info? t = some i ∧ i.zero = some z ∧ i.size = s ∧ i.bytes = b := by
  cases hq : P.info? t with
  | none => simp [hq] at h
  | some i => simp [hq] at h; exact ⟨i, rfl, h⟩

set_option maxRecDepth 20000 in
set_option maxHeartbeats 1000000 in
theorem copyCheck_fresh {bp : Nat} {vb : Value} (w : World) (hb : w.heap[bp]? = some (.cells #[.pointer none, vb] 50 (0, 0))) :
    Calls Tryz.prog 82 #[.pointer (some ⟨bp, 0, none⟩)] w fun e w' => e = .returned (.tuple #[]) ∧ w' = w.setCell ⟨bp, 0, none⟩ (.pointer (some ⟨bp, 0, none⟩)) := by
  obtain ⟨j, hj, hjs⟩ := Option.map_eq_some_iff.1 infoBuilder
  obtain ⟨⟨c0, c1⟩, f0, f1⟩ := cell_row2 hb
  have hsh : w.shape? bp = some (50, 2) := by simp [World.shape?, hb]
  have h1 := Lib.run_to_unsafe (P := Tryz.prog) w ⟨bp, 0, none⟩ Tryz.underlying47 Tryz.underlying179 hj (by rw [hjs]; decide) hsh (by simp)
  have h2 := Lib.run_from_unsafe (P := Tryz.prog) w ⟨bp, 0, none⟩ Tryz.underlying179 Tryz.underlying47 hj hsh liesBuilder
  go_enter Tryz.func82, Tryz.ntmps82
  go_wp2
  rw [run_callFunc_extern Tryz.func105 (by kernel_rfl) (by kernel_rfl) (by kernel_rfl) (e := Extern.AbiNoEscape.same) (by kernel_rfl)]
  rw [Lib.run_noEscape]
  simp only [Result.andThen]
  rw [Oper.upon_value]
  have h3 := Lib.run_neq_ptr_same (P := Tryz.prog) (w.setCell ⟨bp, 0, none⟩ (.pointer (some ⟨bp, 0, none⟩))) ⟨bp, 0, none⟩ Tryz.underlying47 hj
  have hb2 := heap_setCell_same w bp 0 _ _ (.pointer (some ⟨bp, 0, none⟩)) hb
  obtain ⟨⟨d0, d1⟩, -⟩ := cell_row2 (W := w.setCell ⟨bp, 0, none⟩ (.pointer (some ⟨bp, 0, none⟩))) (by simpa using hb2)
  go_wp2
  go_end0
  exact ⟨rfl, rfl⟩

set_option maxRecDepth 20000 in
set_option maxHeartbeats 1000000 in
theorem copyCheck_used {bp : Nat} {vb : Value} (w : World) (hb : w.heap[bp]? = some (.cells #[.pointer (some ⟨bp, 0, none⟩), vb] 50 (0, 0))) :
    Calls Tryz.prog 82 #[.pointer (some ⟨bp, 0, none⟩)] w fun e w' => e = .returned (.tuple #[]) ∧ w' = w := by
  obtain ⟨j, hj, hjs⟩ := Option.map_eq_some_iff.1 infoBuilder
  obtain ⟨⟨c0, c1⟩, f0, f1⟩ := cell_row2 hb
  have h3 := Lib.run_neq_ptr_same (P := Tryz.prog) w ⟨bp, 0, none⟩ Tryz.underlying47 hj
  go_enter Tryz.func82, Tryz.ntmps82
  go_wp2
  go_end0
  exact ⟨rfl, rfl⟩

/-- Behind the check a builder bears its own address. -/
theorem check_any {n₀ bp : Nat} {l : List UInt8} {ad vb : Value} (hb0 : n₀ ≤ bp) (hn : n₀ ≤ w.heap.size) (hb : w.heap[bp]? = some (.cells #[ad, vb] 50 (0, 0))) (ha : ad = .pointer none ∨ ad = .pointer (some ⟨bp, 0, none⟩)) (ho : w.ownsRow n₀ 5 1 vb l.length (Lib.byteCells l)) :
    Calls Tryz.prog 82 #[.pointer (some ⟨bp, 0, none⟩)] w fun e w' => e = .returned (.tuple #[]) ∧ w'.heap[bp]? = some (.cells #[.pointer (some ⟨bp, 0, none⟩), vb] 50 (0, 0)) ∧ w'.ownsRow n₀ 5 1 vb l.length (Lib.byteCells l) ∧ Below n₀ w w' ∧ w.heap.size ≤ w'.heap.size := by
  have hbv : some bp ≠ vb.ownBlock := fun e => by
    obtain ⟨cur, hc⟩ := row_obj ho e.symm
    rw [hb] at hc
    cases hc
  rcases ha with rfl | rfl
  · refine (copyCheck_fresh w hb).mono ?_
    rintro e w' ⟨rfl, rfl⟩
    have hb2 := heap_setCell_same w bp 0 _ _ (.pointer (some ⟨bp, 0, none⟩)) hb
    exact ⟨rfl, by simpa using hb2, row_kept ho (fun k e => heap_setCell_other _ ⟨bp, 0, none⟩ k _ (fun e2 => hbv (by rw [e, e2]))), below_set (Below.refl _ _) hb0 _, by simp [World.setCell]⟩
  · refine (copyCheck_used w hb).mono ?_
    rintro e w' ⟨rfl, rfl⟩
    exact ⟨rfl, hb, ho, Below.refl _ _, Nat.le_refl _⟩

set_option maxRecDepth 20000 in
set_option maxHeartbeats 1000000 in
theorem bdWrite_in {n₀ bp : Nat} {l : List UInt8} (h : IsBd n₀ bp l w) (hn : n₀ ≤ w.heap.size) (x : List UInt8) (hl : l.length + x.length ≤ 1048576) :
    Calls Tryz.prog 83 #[.pointer (some ⟨bp, 0, none⟩), .string (bs x)] w fun e w' => e = .returned (.tuple #[.int .i64 x.length, .nilIface]) ∧ IsBd n₀ bp (l ++ x) w' ∧ Below n₀ w w' := by
  obtain ⟨i0, hi, hz0, hz1, hz2⟩ := info_partsB infoU8
  obtain ⟨hb0, ad, vb, hb, ha, ho, hnil⟩ := h
  have hbl := (Array.getElem?_eq_some_iff.1 hb).1
  have hbv : some bp ≠ vb.ownBlock := fun e => by
    obtain ⟨cur, hc⟩ := row_obj ho e.symm
    rw [hb] at hc
    cases hc
  have H1 := check_any hb0 hn hb ha ho
  have hsx := bs_size x
  go_enter Tryz.func83, Tryz.ntmps83
  go_wp2_with (first
    | (go_at_call 82; refine H1.mono ?_; clear H1; rintro e w1 ⟨rfl, hb1, ho1, hP1, hz⟩; obtain ⟨⟨c0, c1⟩, f0, f1⟩ := cell_row2 hb1)
    | (at_builtin; refine Lib.wpList_append_own_string _ rfl _ _ 48 9 rfl n₀ 5 i0 Tryz.underlying48 Tryz.underlying9 hi hz0 hz1 hz2 _ _ _ rfl ho1 (bs x) rfl (by unfold maxLen; omega) (by omega) (by omega) ?_; intro v' w2 hown2 hgrow2 hiff2; have hb2 := (hgrow2.block bp (by omega) hbv).trans hb1; obtain ⟨⟨d0, d1⟩, g0, g1⟩ := cell_row2 hb2; obtain ⟨p2, c2', rfl, hcl2, hcm2, -⟩ := row_form hown2; have HIF : Hid _ := And.intro hiff2 hnil; clear hiff2 hnil))
  go_ret2
  refine ⟨rfl, ⟨hb0, .pointer (some ⟨bp, 0, none⟩), .slice p2 (l.length + (bs x).size) c2', ?_, .inr rfl, ?_, ?_⟩, hP1.trans ?_⟩
  · have := heap_setCell_same w2 bp 1 _ _ (.slice p2 (l.length + (bs x).size) c2') hb2
    rw [hsx] at this ⊢
    simpa using this
  · have hne : ∀ k, (Value.slice p2 (l.length + (bs x).size) c2').ownBlock = some k → k ≠ bp := fun k e e2 => by
      obtain ⟨cur, hc⟩ := row_obj hown2 e
      rw [e2, hb2] at hc
      cases hc
    have := row_kept hown2 (fun k e => heap_setCell_other _ ⟨bp, 1, none⟩ k (.slice p2 (l.length + (bs x).size) c2') (hne k e))
    rw [List.length_append, ← hsx]
    simpa [Lib.byteCells, Lib.strCells, bs_list, hsx] using this
  · intro he
    rw [List.append_eq_nil_iff] at he
    have hs0 : (bs x).size = 0 := by rw [hsx, he.2]; rfl
    exact HIF.out.1.2 ⟨HIF.out.2 he.1, hs0⟩
  · have := below_set (rbelow_grown hgrow2 (fun k e => (ho1.lt k e).1) (by omega)) hb0 (i := 1) (.slice p2 (l.length + (bs x).size) c2')
    rw [hsx] at this
    exact this

set_option maxRecDepth 20000 in
set_option maxHeartbeats 1000000 in
theorem bdByte_in {n₀ bp : Nat} {l : List UInt8} (h : IsBd n₀ bp l w) (hn : n₀ ≤ w.heap.size) (c : UInt8) (hl : l.length + 1 ≤ 1048576) :
    Calls Tryz.prog 38 #[.pointer (some ⟨bp, 0, none⟩), .int .u8 c.toNat] w fun e w' => e = .returned .nilIface ∧ IsBd n₀ bp (l ++ [c]) w' ∧ Below n₀ w w' := by
  obtain ⟨i0, hi, hz0, hz1, hz2⟩ := info_partsB infoU8
  obtain ⟨hb0, ad, vb, hb, ha, ho, hnil⟩ := h
  have hbl := (Array.getElem?_eq_some_iff.1 hb).1
  have hbv : some bp ≠ vb.ownBlock := fun e => by
    obtain ⟨cur, hc⟩ := row_obj ho e.symm
    rw [hb] at hc
    cases hc
  have H1 := check_any hb0 hn hb ha ho
  go_enter Tryz.func38, Tryz.ntmps38
  go_wp2_with (first
    | (go_at_call 82; refine H1.mono ?_; clear H1; rintro e w1 ⟨rfl, hb1, ho1, hP1, hz⟩; obtain ⟨⟨c0, c1⟩, f0, f1⟩ := cell_row2 hb1; have hb1' := (Below.heap_alloc w1 (.cells #[.int .u8 c.toNat] 5) bp (by omega)).trans hb1; obtain ⟨⟨c0', c1'⟩, f0', f1'⟩ := cell_row2 hb1')
    | (at_builtin; (refine wpList_append_own _ rfl _ _ 48 rfl n₀ 5 i0 (.int .u8 0) 1 1 Tryz.underlying48 hi hz0 hz1 hz2 rfl (by decide) _ _ _ rfl (ho1.alloc _) ⟨w1.heap.size, 0, none⟩ 1 1 [.int .u8 c.toNat] rfl rfl (World.news_of_block (cs := #[.int .u8 c.toNat]) (t := 5) (fr := (0, 0)) (heap_alloc_new w1 _)) (by simp [Value.oneCell']) (by unfold maxLen; omega) (by omega) (by simp; omega) ?_; intro v' w2 hown2 hgrow2 _; have hb2 := (hgrow2.block bp (by simp; omega) hbv).trans hb1'; obtain ⟨⟨d0, d1⟩, g0, g1⟩ := cell_row2 hb2; obtain ⟨p2, c2', rfl, hcl2, hcm2, -⟩ := row_form hown2)))
  go_ret
  refine ⟨rfl, ⟨hb0, .pointer (some ⟨bp, 0, none⟩), .slice p2 (l.length + 1) c2', ?_, .inr rfl, ?_, by simp⟩, hP1.trans ?_⟩
  · have := heap_setCell_same w2 bp 1 _ _ (.slice p2 (l.length + 1) c2') hb2
    simpa using this
  · have hne : ∀ k, (Value.slice p2 (l.length + 1) c2').ownBlock = some k → k ≠ bp := fun k e e2 => by
      obtain ⟨cur, hc⟩ := row_obj hown2 e
      rw [e2, hb2] at hc
      cases hc
    have := row_kept hown2 (fun k e => heap_setCell_other _ ⟨bp, 1, none⟩ k (.slice p2 (l.length + 1) c2') (hne k e))
    rw [List.length_append]
    simpa [Lib.byteCells] using this
  · have h3 := rbelow_grown (m₀ := n₀) hgrow2 (fun k e => (ho1.lt k e).1) (by simp; omega)
    exact below_set (((Below.refl n₀ w1).alloc (by omega) _).trans h3) hb0 _

theorem byteCells_len (l : List UInt8) : (Lib.byteCells l).length = l.length := by simp [Lib.byteCells]

theorem freeze_other {W : World} {k g n : Nat} (h : k ≠ g) : (W.freeze ⟨g, 0, none⟩ n).heap[k]? = W.heap[k]? := by
  unfold World.freeze
  split
  · rfl
  · simp only [Array.getElem?_modify]
    rw [if_neg (by omega)]

theorem cellsByte : Tryz.prog.cellsOf 5 = 1 := by kernel_rfl

set_option maxRecDepth 20000 in
set_option maxHeartbeats 1000000 in
/-- The builder's text. -/
theorem bdString_some {n₀ bp : Nat} {l : List UInt8} (h : IsBd n₀ bp l w) (hn : n₀ ≤ w.heap.size) (hl : l.length ≤ 1048576) (h0 : l ≠ []) :
    Calls Tryz.prog 16 #[.pointer (some ⟨bp, 0, none⟩)] w fun e w' => e = .returned (.string ⟨l.toArray⟩) ∧ Below n₀ w w' := by
  obtain ⟨hb0, ad, vb, hb, ha, ho, hnil⟩ := h
  clear hnil
  have hl0 : l.length ≠ 0 := by simpa using h0
  obtain ⟨g, cap, cur, rfl, hbg, hg, hnc, hcm, hcs, htake⟩ : ∃ g cap cur, vb = .slice (some ⟨g, 0, none⟩) l.length cap ∧ n₀ ≤ g ∧ w.heap[g]? = some (.cells cur 5 (0, 0)) ∧ l.length ≤ cap ∧ cap ≤ maxLen ∧ cur.size = cap * 1 ∧ cur.toList.take (l.length * 1) = Lib.byteCells l := by
    rcases ho.2 with ⟨_, hz⟩ | ⟨g, cap, cur, hv, r⟩
    · exact absurd hz hl0
    · exact ⟨g, cap, cur, hv, r⟩
  obtain ⟨⟨c0, c1⟩, -⟩ := cell_row2 (W := w.drew) hb
  have hSD : (Builtin.unsafeSliceData_ #[48] 79 #[.slice (some ⟨g, 0, none⟩) l.length cap]).run Tryz.prog w.drew = .ok (.pointer (some ⟨g, 0, none⟩)) w.drew :=
    Lib.run_unsafeSliceData_row _ _ _ _ _ _ (by omega)
  have hUS : (Builtin.unsafeString_ #[79, 3] 9 #[.pointer (some ⟨g, 0, none⟩), .int .i64 l.length]).run Tryz.prog w.drew = .ok (.string ⟨l.toArray⟩) (w.drew.freeze ⟨g, 0, none⟩ l.length) := by
    refine Lib.run_unsafeString_row w.drew 79 3 9 5 Tryz.underlying79 cellsByte g cur.size (by have hg' : w.drew.heap[g]? = some (.cells cur 5 (0, 0)) := hg; simp [World.shape?, hg']) l h0 (by omega) (by unfold maxLen at hcm; omega) ?_
    intro j x hx
    have := ho.cells (g := g) rfl j (.int .u8 x.toNat) (by simp [Lib.byteCells, hx])
    exact this
  have hbg2 : bp ≠ g := by rintro rfl; rw [hb] at hg; cases hg
  have c1' : (w.drew.freeze ⟨g, 0, none⟩ l.length).cell? ⟨bp, 1, none⟩ = some (.slice (some ⟨g, 0, none⟩) l.length cap) := by
    rw [← c1]
    exact World.cell?_of_block (a := ⟨bp, 1, none⟩) (freeze_other hbg2)
  go_enter Tryz.func16, Tryz.ntmps16
  go_wp2
  go_region_held3 (fun W => W.cell? ⟨bp, 1, none⟩ = some (.slice (some ⟨g, 0, none⟩) l.length cap)) (first | with_reducible exact c1 | with_reducible exact c1' | go_keep) (fail)
  all_goals (go_wp2; go_ret; exact ⟨rfl, Lib.below_freeze (below_drew (Below.refl n₀ w)) (p := ⟨g, 0, none⟩) hbg _⟩)

set_option maxRecDepth 20000 in
set_option maxHeartbeats 1000000 in
/-- The builder's text, if nothing was put. -/
theorem bdString_nil {n₀ bp : Nat} (h : IsBd n₀ bp [] w) :
    Calls Tryz.prog 16 #[.pointer (some ⟨bp, 0, none⟩)] w fun e w' => e = .returned (.string ⟨#[]⟩) ∧ Below n₀ w w' := by
  obtain ⟨hb0, ad, vb, hb, ha, ho, hnil⟩ := h
  obtain rfl := hnil rfl
  obtain ⟨⟨c0, c1⟩, -⟩ := cell_row2 (W := w.drew) hb
  have hSD : (Builtin.unsafeSliceData_ #[48] 79 #[.slice none 0 0]).run Tryz.prog w.drew = .ok (.pointer none) w.drew := Lib.run_unsafeSliceData_nil _ _ _ _ _
  have hUS : (Builtin.unsafeString_ #[79, 3] 9 #[.pointer none, .int .i64 0]).run Tryz.prog w.drew = .ok (.string .empty) w.drew := Lib.run_unsafeString_none _ _ _ _ _
  go_enter Tryz.func16, Tryz.ntmps16
  go_wp2
  go_region_held3 (fun W => W.cell? ⟨bp, 1, none⟩ = some (.slice none 0 0)) (first | with_reducible exact c1 | go_keep) (fail)
  all_goals (go_wp2; go_ret; exact ⟨rfl, below_drew (Below.refl n₀ w)⟩)

theorem bdString_in {n₀ bp : Nat} {l : List UInt8} (h : IsBd n₀ bp l w) (hn : n₀ ≤ w.heap.size) (hl : l.length ≤ 1048576) :
    Calls Tryz.prog 16 #[.pointer (some ⟨bp, 0, none⟩)] w fun e w' => e = .returned (.string (bs l)) ∧ Below n₀ w w' := by
  cases l with
  | nil => exact bdString_nil h
  | cons c r => exact bdString_some h hn hl (by simp)

theorem IsBd.kept {n₀ bp b : Nat} {l : List UInt8} {w w' : World} (h : IsBd n₀ bp l w) (hb : b < n₀) (hr : Rst b w w') : IsBd n₀ bp l w' := by
  have hl := h.lt
  obtain ⟨h0, ad, vb, h1, h2, h3, h4⟩ := h
  exact ⟨h0, ad, vb, (hr.block bp hl (by omega)).trans h1, h2, row_kept h3 (fun k e => hr.block k (h3.lt k e).2 (by have := (h3.lt k e).1; omega)), h4⟩

end Lp

end Go.Proofs.YtnekcomkochmjaaGreatDoor

namespace Go.Proofs.YtnekcomkochmjaaGreatDoor
set_option linter.unusedVariables false
set_option linter.unusedSimpArgs false
open Go.RowKit

namespace Lp
open Lk

variable {w : World}

def plainQ (c : UInt8) : Bool := c != 34 && c != 92

/-- What is read up to the quote that ends a text. -/
def txtP : Nat → Ln → List UInt8 → List UInt8 × Ln
  | 0, l, _ => ([], ⟨l.rest, true⟩)
  | n + 1, l, acc => match l.rest.dropWhile plainQ with
    | [] => ([], ⟨l.rest, true⟩)
    | c :: t => if c = 34 then (acc ++ l.rest.takeWhile plainQ, ⟨t, l.wrong⟩) else txtP n (Ln.escd ⟨t, l.wrong⟩) (acc ++ l.rest.takeWhile plainQ ++ [escV t])

def Ln.text (l : Ln) : List UInt8 × Ln := txtP ((l.eat [32, 34]).rest.length + 1) (l.eat [32, 34]) []

theorem any_none {r : List UInt8} (h : r.dropWhile plainQ = []) : Lib.indexAny r [34, 92] = -1 := by
  induction r with
  | nil => rfl
  | cons c r ih =>
    by_cases hc : plainQ c = true
    · simp only [List.dropWhile, hc] at h
      have h2 := ih h
      have hc' : ([34, 92] : List UInt8).contains c = false := by
        unfold plainQ at hc
        simp at hc
        simp [hc.1, hc.2]
      simp only [Lib.indexAny, hc', h2]
      simp
    · simp [List.dropWhile, hc] at h

theorem any_at {r t : List UInt8} {c : UInt8} (h : r.dropWhile plainQ = c :: t) : Lib.indexAny r [34, 92] = (r.takeWhile plainQ).length ∧ (c = 34 ∨ c = 92) ∧ r = r.takeWhile plainQ ++ c :: t := by
  induction r with
  | nil => simp at h
  | cons d r ih =>
    by_cases hc : plainQ d = true
    · simp only [List.dropWhile, hc] at h
      obtain ⟨h2, h3, h4⟩ := ih h
      have hc' : ([34, 92] : List UInt8).contains d = false := by
        unfold plainQ at hc
        simp at hc
        simp [hc.1, hc.2]
      refine ⟨?_, h3, ?_⟩
      · simp only [Lib.indexAny, hc', h2, List.takeWhile, hc, List.length_cons]
        simp
      · simp only [List.takeWhile, hc, List.cons_append]; rw [← h4]
    · simp only [List.dropWhile, hc] at h
      simp at h
      obtain ⟨rfl, rfl⟩ := h
      have hq : d = 34 ∨ d = 92 := by
        unfold plainQ at hc
        simp at hc
        by_cases e : d = 34
        · exact .inl e
        · exact .inr (hc e)
      refine ⟨?_, hq, by simp [List.takeWhile, hc]⟩
      have : ([34, 92] : List UInt8).contains d = true := by rcases hq with rfl | rfl <;> decide
      simp only [Lib.indexAny, this, List.takeWhile, hc]
      simp

theorem Rst.then {b n : Nat} {w W W' : World} (h : Rst b w W) (hB : Below n W W') (hn : w.heap.size ≤ n) : Rst b w W' :=
  ⟨hB.os.trans h.os, hB.tape.trans h.tape, hB.output.trans h.output, Nat.le_trans h.size hB.size, fun k hk hkb => (hB.block k (by omega)).trans (h.block k hk hkb)⟩

theorem Rd.then {w0 : World} {b n : Nat} {l : Ln} {w w' : World} (h : Rd w0 b l w) (hB : Below n w w') (hb : b < n) : Rd w0 b l w' :=
  ⟨(hB.block b hb).trans h.ln, h.base, h.bel.trans (hB.mono (by have := h.base; omega)), h.len⟩

def lnLen (b : Nat) (w : World) : Nat := match w.cell? ⟨b, 0, none⟩ with
  | some (.string s) => s.size
  | _ => 0

theorem IsLn.len {b : Nat} {l : Ln} (h : IsLn b l w) : lnLen b w = l.rest.length := by
  obtain ⟨⟨c0, _⟩, _⟩ := cell_row2 h
  unfold lnLen
  rw [c0]
  exact bs_size _

/-- The contract of strings.IndexAny that is asked. -/
def AnyC : Prop := ∀ (r : List UInt8) (W : World), r.length ≤ 1048576 → Calls Tryz.prog 97 #[.string (bs r), .string ⟨#[34, 92]⟩] W fun e w' => e = .returned (.int .i64 (Lib.indexAny r [34, 92])) ∧ Below W.heap.size W w'

set_option maxRecDepth 20000 in
set_option maxHeartbeats 8000000 in
theorem text_in (HIA : AnyC) {w0 : World} {b : Nat} {l : Ln} (h : Rd w0 b l w) :
    Calls Tryz.prog 61 #[.pointer (some ⟨b, 0, none⟩)] w fun e w' => e = .returned (.string (bs l.text.1)) ∧ Rd w0 b l.text.2 w' ∧ Rst b w w' := by
  have H1 := eat_in h.ln [32, 34]
  have HR : Hid _ := h
  obtain ⟨R, hR⟩ : ∃ R, R = l.text := ⟨_, rfl⟩
  rw [← hR]
  have HRR : Hid (R = txtP ((l.eat [32, 34]).rest.length + 1) (l.eat [32, 34]) []) := hR
  have hel := eat_len l [32, 34]
  have hll := h.len
  have hblt := h.ln.lt
  have HI : Hid AnyC := HIA
  clear h hR HIA
  generalize l.eat [32, 34] = l1 at *
  go_enter Tryz.func61, Tryz.ntmps61
  go_wp2_with (first
    | (go_at_call 96; refine H1.mono ?_; clear H1; rintro e w1 ⟨rfl, hl1, hr1⟩; have hd1 := HR.out.step hl1 hr1 hel))
  have hA := below1 w1 (.cells #[.pointer none, .slice none 0 0] 50)
  have hbd : IsBd w1.heap.size w1.heap.size [] (w1.alloc (.cells #[.pointer none, .slice none 0 0] 50)) := ⟨Nat.le_refl _, .pointer none, .slice none 0 0, heap_alloc_new _ _, .inl rfl, World.ownsRow_nil _ _ _ _, fun _ => rfl⟩
  have hbl1 := hd1.ln.lt
  go_loopw [4, 5] (fun _ _ wr => ∃ (l' : Ln) (acc : List UInt8) (n : Nat), Rd w0 b l' wr ∧ IsBd w1.heap.size w1.heap.size acc wr ∧ Rst b w wr ∧ l'.rest.length < n ∧ acc.length + l'.rest.length ≤ 1048576 ∧ R = txtP n l' acc ∧ w1.heap.size ≤ wr.heap.size) (fun _ _ wr => lnLen b wr)
  case atStart => exact ⟨l1, [], l1.rest.length + 1, hd1.below hA, hbd, hr1.trans (Rst.of_below hA), by omega, by simp; omega, HRR.out, hA.size⟩
  case round =>
    obtain ⟨l', acc, n, hd, hbd', hrs, hn, hacc, hRn, hsz⟩ := hrel
    rename World => wo
    have hlen := hd.len
    have A := HI.out l'.rest wo hd.len
    obtain ⟨m, rfl⟩ : ∃ m, n = m + 1 := ⟨n - 1, by omega⟩
    have hs1 := bs_size l'.rest
    have hbb : b < w1.heap.size := hbl1
    have hw01 : w.heap.size ≤ w1.heap.size := hr1.size
    obtain ⟨⟨x0, x1⟩, -⟩ := cell_row2 hd.ln
    simp only [txtP] at hRn
    cases hdw : l'.rest.dropWhile plainQ with
    | nil =>
      rw [hdw] at hRn
      simp only at hRn
      rw [any_none hdw] at A
      have HRn : Hid _ := hRn
      have HD : Hid _ := hd
      have HRS : Hid _ := hrs
      clear hRn hdw hd hrs hbd'
      go_wp2_with (first
        | (go_at_call 97; refine A.mono ?_; clear A; rintro e w2 ⟨rfl, hB2⟩; have hd2 := HD.out.below hB2; obtain ⟨⟨c0, c1⟩, f0, f1⟩ := cell_row2 hd2.ln))
      go_ret
      rw [HRn.out]
      exact ⟨rfl, hd2.step (hd2.ln.setWrong true) ((Rst.refl _ _).set _) (Nat.le_refl _), (HRS.out.trans (Rst.of_below hB2)).set _⟩
    | cons c t =>
      rw [hdw] at hRn
      simp only at hRn
      obtain ⟨hia, hc, hra⟩ := any_at hdw
      rw [hia] at A
      generalize ha : l'.rest.takeWhile plainQ = a at *
      have hup := bs_upto l'.rest a.length
      have hfr := bs_from l'.rest (a.length + 1)
      have t1 : l'.rest.take a.length = a := by rw [hra]; simp
      have t2 : l'.rest.drop (a.length + 1) = t := by rw [hra]; simp
      rw [t1] at hup
      rw [t2] at hfr
      have hln : l'.rest.length = a.length + t.length + 1 := by rw [hra]; simp; omega
      have HLN : Hid _ := hln
      have hle : (a.length : Int) < (l'.rest.length : Int) := by omega
      have hle2 : (a.length : Int) + 1 ≤ (l'.rest.length : Int) := by omega
      have hge : ¬ ((a.length : Int) < 0) := by omega
      have hjs : a.length < (bs l'.rest).size := by omega
      have hg : (bs l'.rest)[a.length]'hjs = c := by
        have := bs_get hjs
        rw [show l'.rest[a.length]? = some c by rw [hra]; simp] at this
        exact (Option.some.inj this).symm
      have HRn : Hid _ := hRn
      have HD : Hid _ := hd
      have HRS : Hid _ := hrs
      have HBD : Hid _ := hbd'
      clear hRn hdw hd hrs hbd' hia ha t1 t2 hra hln
      by_cases h34 : c = 34
      · subst h34
        have e : R = (acc ++ a, ⟨t, l'.wrong⟩) := by have := HRn.out; rw [if_pos rfl] at this; exact this
        have HE : Hid _ := e
        have hgi : (((bs l'.rest)[a.length]'hjs).toNat : Int) = 34 := by rw [hg]; rfl
        clear hg e HRn
        go_wp2_with (first
          | (go_at_call 97; refine A.mono ?_; clear A; rintro e w2 ⟨rfl, hB2⟩; have hd2 := HD.out.below hB2; have hb2 := HBD.out.kept hbb (Rst.of_below hB2); have hs2 := Nat.le_trans hsz hB2.size; have q2 := HRS.out.then (hB2.mono hsz) hw01; obtain ⟨⟨c0, c1⟩, f0, f1⟩ := cell_row2 hd2.ln; have A2 := bdWrite_in hb2 hs2 a (by have := HLN.out; omega))
          | (go_at_call 83; refine A2.mono ?_; clear A2; rintro e w3 ⟨rfl, hb3, hB3⟩; have hd3 := hd2.then hB3 hbb; have q3 := q2.then hB3 hw01; have hs3 := Nat.le_trans hs2 hB3.size; obtain ⟨⟨d0, d1⟩, g0, g1⟩ := cell_row2 hd3.ln; have hr4 : Rst b w3 (w3.setCell ⟨b, 0, none⟩ (.string (bs t))) := (Rst.refl _ _).set _; have hd4 := hd3.step (hd3.ln.setRest t) hr4 (by have := HLN.out; simp only; omega); have hb4 := hb3.kept hbb hr4; have q4 := q3.trans hr4; have hs4 := Nat.le_trans hs3 hr4.size; have A5 := bdString_in hb4 hs4 (by have := HLN.out; simp only [List.length_append]; omega))
          | (go_at_call 16; refine A5.mono ?_; clear A5; rintro e w5 ⟨rfl, hB5⟩))
        go_ret
        rw [HE.out]
        exact ⟨rfl, hd4.then hB5 hbb, q4.then hB5 hw01⟩
      · have e : R = txtP m (Ln.escd ⟨t, l'.wrong⟩) (acc ++ a ++ [escV t]) := by have := HRn.out; rw [if_neg h34] at this; exact this
        have HE : Hid _ := e
        have hgi : ¬ ((((bs l'.rest)[a.length]'hjs).toNat : Int) = 34) := by rw [hg]; intro e; exact h34 (eq34.2 (by omega))
        have hel2 := escd_len ⟨t, l'.wrong⟩
        simp only at hel2
        clear hg e HRn h34 hc
        go_wp2_with (first
          | (go_at_call 97; refine A.mono ?_; clear A; rintro e w2 ⟨rfl, hB2⟩; have hd2 := HD.out.below hB2; have hb2 := HBD.out.kept hbb (Rst.of_below hB2); have hs2 := Nat.le_trans hsz hB2.size; have q2 := HRS.out.then (hB2.mono hsz) hw01; obtain ⟨⟨c0, c1⟩, f0, f1⟩ := cell_row2 hd2.ln; have A2 := bdWrite_in hb2 hs2 a (by have := HLN.out; omega))
          | (go_at_call 83; refine A2.mono ?_; clear A2; rintro e w3 ⟨rfl, hb3, hB3⟩; have hd3 := hd2.then hB3 hbb; have q3 := q2.then hB3 hw01; have hs3 := Nat.le_trans hs2 hB3.size; obtain ⟨⟨d0, d1⟩, g0, g1⟩ := cell_row2 hd3.ln; have hr4 : Rst b w3 (w3.setCell ⟨b, 0, none⟩ (.string (bs t))) := (Rst.refl _ _).set _; have hd4 := hd3.step (hd3.ln.setRest t) hr4 (by have := HLN.out; simp only; omega); have hb4 := hb3.kept hbb hr4; have q4 := q3.trans hr4; have hs4 := Nat.le_trans hs3 hr4.size; have A5 := escaped_in hd4.ln hd4.len; have hel3 : (Ln.escd ⟨t, l'.wrong⟩).rest.length ≤ t.length := hel2)
          | (go_at_call 98; refine A5.mono ?_; clear A5; rintro e w5 ⟨rfl, hl5, hr5⟩; have hd5 := hd4.step hl5 hr5 hel3; have hb5 := hb4.kept hbb hr5; have q5 := q4.trans hr5; have hs5 := Nat.le_trans hs4 hr5.size; have A6 := bdByte_in hb5 hs5 (escV t) (by have := HLN.out; simp only [List.length_append]; omega))
          | (go_at_call 38; refine A6.mono ?_; clear A6; rintro e w6 ⟨rfl, hb6, hB6⟩; have hd6 := hd5.then hB6 hbb; have q6 := q5.then hB6 hw01; have hs6 := Nat.le_trans hs5 hB6.size))
        go_roundw
        case rel => exact ⟨_, _, m, hd6, hb6, q6, by have := HLN.out; omega, by have := HLN.out; simp only [List.length_append, List.length_cons, List.length_nil]; omega, HE.out, hs6⟩
        case measure =>
          rw [hd6.ln.len, HD.out.ln.len]
          have := HLN.out
          omega

end Lp

end Go.Proofs.YtnekcomkochmjaaGreatDoor

namespace Go.Proofs.YtnekcomkochmjaaGreatDoor
set_option linter.unusedVariables false
set_option linter.unusedSimpArgs false
open Go.RowKit

namespace Lp
open Lk

variable {w : World}

theorem text_len_aux : ∀ (n : Nat) (l : Ln) (acc : List UInt8), (txtP n l acc).2.rest.length ≤ l.rest.length
  | 0, l, acc => by simp [txtP]
  | n + 1, l, acc => by
    simp only [txtP]
    cases hdw : l.rest.dropWhile plainQ with
    | nil => simp
    | cons c t =>
      have hle : (c :: t).length ≤ l.rest.length := by rw [← hdw]; exact (List.dropWhile_sublist _).length_le
      simp only [List.length_cons] at hle
      simp only
      split
      · simp only; omega
      · have h1 := text_len_aux n (Ln.escd ⟨t, l.wrong⟩) (acc ++ l.rest.takeWhile plainQ ++ [escV t])
        have h2 := escd_len ⟨t, l.wrong⟩
        simp only at h2
        omega

/-- A function's first line. -/
def Ln.headd (l : Ln) : Ln := l.text.2.numd.numd

theorem infoFn8 : (Tryz.prog.info? 45).map (·.size) = some 8 := by kernel_rfl

set_option maxRecDepth 20000 in
set_option maxHeartbeats 4000000 in
theorem head_in (HIA : AnyC) {w0 : World} {b : Nat} {l : Ln} (h : Rd w0 b l w) (he : ErrT w0) (tab : Tab w0) :
    Calls Tryz.prog 33 #[.pointer (some ⟨b, 0, none⟩)] w fun e w' => e = .returned (.agg #[.string (bs l.text.1), .int .i64 l.text.2.num, .int .i64 l.text.2.numd.num, .slice none 0 0, .slice none 0 0, .slice none 0 0, .slice none 0 0, .slice none 0 0]) ∧ Rd w0 b l.headd w' ∧ Rst b w w' := by
  have hA := below1 w (.cells #[.string ⟨#[]⟩, .int .i64 0, .int .i64 0, .slice none 0 0, .slice none 0 0, .slice none 0 0, .slice none 0 0, .slice none 0 0] 45)
  have hz := heap_alloc_new w (.cells #[.string ⟨#[]⟩, .int .i64 0, .int .i64 0, .slice none 0 0, .slice none 0 0, .slice none 0 0, .slice none 0 0, .slice none 0 0] 45)
  have hlt := h.ln.lt
  have hb0 := h.base
  have H1 := text_in HIA (h.below hA)
  have HE : Hid (ErrT w0) := he
  have HT : Hid (Tab w0) := tab
  unfold Ln.headd
  generalize l.text.1 = s1 at *
  generalize l.text.2 = l1 at *
  clear h he tab HIA
  go_enter Tryz.func33, Tryz.ntmps33
  go_wp2_with (first
    | (go_at_call 61; (with_reducible refine H1.mono ?_); clear H1; rintro e w1 ⟨rfl, hd1, hr1⟩; have z1 := (hr1.block w.heap.size (by simp) (by omega)).trans hz; have H2 := number_in hd1 HE.out HT.out; have g1 := (Rst.of_below (b := b) hA).trans hr1)
    | (go_at_call 62; (with_reducible refine H2.mono ?_); clear H2; rintro e w2 ⟨rfl, hd2, hr2⟩; have z2 := (hr2.block w.heap.size (Array.getElem?_eq_some_iff.1 z1).1 (by omega)).trans z1; have H3 := number_in hd2 HE.out HT.out; have g2 := g1.trans hr2)
    | (go_at_call 62; (with_reducible refine H3.mono ?_); clear H3; rintro e w3 ⟨rfl, hd3, hr3⟩; have z3 := (hr3.block w.heap.size (Array.getElem?_eq_some_iff.1 z2).1 (by omega)).trans z2; have g3 := g2.trans hr3; obtain ⟨⟨u0, u1, u2, u3, u4, u5, u6, u7⟩, v0, v1, v2, v3, v4, v5, v6, v7⟩ := cell_row8 z3))
  refine bodyPost_ret (results_cell_row (by rfl) _ _ w.heap.size 45 _ _ _ (by rfl) (set8_row z3) Tryz.underlying45 (by rfl) infoFn8) (by rfl) ?_
  refine ⟨rfl, ?_, ?_⟩
  · exact (((((((hd3.put (by omega) (by omega) _).put (by omega) (by omega) _).put (by omega) (by omega) _).put (by omega) (by omega) _).put (by omega) (by omega) _).put (by omega) (by omega) _).put (by omega) (by omega) _).put (by omega) (by omega) _
  · exact (((((((g3.put (Nat.le_refl _) _).put (Nat.le_refl _) _).put (Nat.le_refl _) _).put (Nat.le_refl _) _).put (Nat.le_refl _) _).put (Nat.le_refl _) _).put (Nat.le_refl _) _).put (Nat.le_refl _) _

theorem set3_row {W : World} {g : Nat} {a b c x0 x1 x2 : Value} {t : TypeId} (h : W.heap[g]? = some (.cells #[a, b, c] t (0, 0))) : (((W.setCell ⟨g, 0, none⟩ x0).setCell ⟨g, 1, none⟩ x1).setCell ⟨g, 2, none⟩ x2).heap[g]? = some (.cells #[x0, x1, x2] t (0, 0)) := by
  have h1 := heap_setCell_same W g 0 _ t x0 h
  have h2 := heap_setCell_same _ g 1 _ t x1 h1
  have h3 := heap_setCell_same _ g 2 _ t x2 h2
  simpa using h3

/-- A constant's line. -/
def Ln.conV (l : Ln) (s : List UInt8) : Ck := if s = [105, 110, 116] then ⟨2, l.num, ⟨#[]⟩⟩ else ⟨3, 0, bs l.text.1⟩

def Ln.cond (l : Ln) (s : List UInt8) : Ln := if s = [105, 110, 116] then l.numd else l.text.2

theorem infoCk3 : (Tryz.prog.info? 75).map (·.size) = some 3 := by kernel_rfl

set_option maxRecDepth 20000 in
set_option maxHeartbeats 4000000 in
theorem constant_in (HIA : AnyC) {w0 : World} {b : Nat} {l : Ln} (h : Rd w0 b l w) (s : List UInt8) (he : ErrT w0) (tab : Tab w0) :
    Calls Tryz.prog 65 #[.pointer (some ⟨b, 0, none⟩), .string (bs s)] w fun e w' => e = .returned (.agg #[.int .u8 (l.conV s).k, .int .i64 (l.conV s).n, .string (l.conV s).s]) ∧ Rd w0 b (l.cond s) w' ∧ Rst b w w' := by
  have hA := below1 w (.cells #[.int .u8 0, .int .i64 0, .string ⟨#[]⟩] 75)
  have hz := heap_alloc_new w (.cells #[.int .u8 0, .int .i64 0, .string ⟨#[]⟩] 75)
  have hlt := h.ln.lt
  have hb0 := h.base
  unfold Ln.conV Ln.cond
  by_cases hs : s = [105, 110, 116]
  · rw [if_pos hs, if_pos hs]
    have hv2 : ((bs s).toList == ([105, 110, 116] : List UInt8)) = true := by rw [hs, bs_toList]; decide
    have H1 := long_in (h.below hA) he tab
    clear h he tab HIA hs
    simp only
    go_enter Tryz.func65, Tryz.ntmps65
    go_wp2_with (first
      | (go_at_call 99; (with_reducible refine H1.mono ?_); clear H1; rintro e w1 ⟨rfl, hd1, hr1⟩; have z1 := (hr1.block w.heap.size (by simp) (by omega)).trans hz; have g1 := (Rst.of_below (b := b) hA).trans hr1; obtain ⟨⟨u0, u1, u2⟩, v0, v1, v2⟩ := cell_row3 z1))
    refine bodyPost_ret (results_cell_row (by rfl) _ _ w.heap.size 75 _ _ _ (by rfl) (set3_row z1) Tryz.underlying75 (by rfl) infoCk3) (by rfl) ?_
    exact ⟨rfl, ((hd1.put (by omega) (by omega) _).put (by omega) (by omega) _).put (by omega) (by omega) _, ((g1.put (Nat.le_refl _) _).put (Nat.le_refl _) _).put (Nat.le_refl _) _⟩
  · rw [if_neg hs, if_neg hs]
    have hv2 : ((bs s).toList == ([105, 110, 116] : List UInt8)) = false := by rw [bs_toList, beq_eq_false_iff_ne]; exact hs
    have H1 := text_in HIA (h.below hA)
    clear h he tab HIA hs
    simp only
    generalize l.text.1 = s1 at *
    generalize l.text.2 = l1 at *
    go_enter Tryz.func65, Tryz.ntmps65
    go_wp2_with (first
      | (go_at_call 61; (with_reducible refine H1.mono ?_); clear H1; rintro e w1 ⟨rfl, hd1, hr1⟩; have z1 := (hr1.block w.heap.size (by simp) (by omega)).trans hz; have g1 := (Rst.of_below (b := b) hA).trans hr1; obtain ⟨⟨u0, u1, u2⟩, v0, v1, v2⟩ := cell_row3 z1))
    refine bodyPost_ret (results_cell_row (by rfl) _ _ w.heap.size 75 _ _ _ (by rfl) (set3_row z1) Tryz.underlying75 (by rfl) infoCk3) (by rfl) ?_
    exact ⟨rfl, ((hd1.put (by omega) (by omega) _).put (by omega) (by omega) _).put (by omega) (by omega) _, ((g1.put (Nat.le_refl _) _).put (Nat.le_refl _) _).put (Nat.le_refl _) _⟩

end Lp

end Go.Proofs.YtnekcomkochmjaaGreatDoor
