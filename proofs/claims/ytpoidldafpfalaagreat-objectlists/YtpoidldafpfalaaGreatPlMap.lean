/- gc's plan, place and slide: where objects come to lie. -/
import Derived.Test.YtpoidldafpfalaaGreatStay
import Derived.Test.YtpoidldafpfalaaGreatGcSlide
import Derived.Maps.OwnSet
import Derived.Test.YtpoidldafpfalaaGreatObFirst
import Derived.Lib.SlKeysI
namespace Go.Proofs.YtpoidldafpfalaaGreat
set_option linter.unusedVariables false
set_option linter.unusedSimpArgs false
open Go.RowKit Go.Maps

variable {n₀ bh b lim used : Nat} {vw vb : Value} {w : World} {M : List Ob}

theorem lawK : Keyed Tryz.prog 2 := int_keyed Tryz.underlying2

theorem zeroK (w : World) : (zeroValue 2).run Tryz.prog w = .ok (.int .i64 0) w := by kernel_rfl

theorem wfK {x : Int} (h : -9223372036854775808 ≤ x ∧ x ≤ 9223372036854775807) : (Lit.int .i64 x).wf = true := by
  exact WalkArith.wf_i64 (by omega)

/-- The map of new places. -/
def IsMv (w : World) (bM n : Nat) (d : Nat → Nat) : Prop :=
  ∃ D : DataW Unit, w.ownsMap Tryz.prog 2 (plainElem Tryz.prog 2) bM n D ∧ ∀ p : Nat, Maps.has D (.int .i64 p) = decide (d p ≠ p) ∧ (d p ≠ p → D.atKey (.int .i64 p) (.lit (.int .i64 0)) = .lit (.int .i64 (d p : Nat)))

theorem IsMv.kept {bM n : Nat} {d : Nat → Nat} (h : IsMv w bM n d) {w' : World} (hk : w'.heap[bM]? = w.heap[bM]?) : IsMv w' bM n d := by
  obtain ⟨D, ⟨es, cl, h1, h2⟩, h3⟩ := h
  exact ⟨D, ⟨es, cl, hk.trans h1, h2⟩, h3⟩

theorem IsMv.lt {bM n : Nat} {d : Nat → Nat} (h : IsMv w bM n d) : bM < w.heap.size := by
  obtain ⟨D, h1, _⟩ := h; exact h1.lt

theorem IsMv.below {bM n : Nat} {d : Nat → Nat} (h : IsMv w bM n d) {w' : World} (hB : Below w.heap.size w w') : IsMv w' bM n d := h.kept (hB.block _ h.lt)

theorem IsMv.isMap {bM n : Nat} {d : Nat → Nat} (h : IsMv w bM n d) : ∃ es cl, w.heap[bM]? = some (.map es cl) := by
  obtain ⟨D, ⟨es, cl, h1, h2⟩, h3⟩ := h; exact ⟨es, cl, h1⟩

/-- The blocks of a heap are no map. -/
theorem IsMv.step {bM n : Nat} {d : Nat → Nat} (h : IsMv w bM n d) (hp : Hp n₀ bh b vw vb w lim used M) {vw' vb' : Value} {w' : World} (hS : Step b vw vb w vw' vb' w') : IsMv w' bM n d := by
  obtain ⟨es, cl, hm⟩ := h.isMap
  have no : ∀ k, (k = bh ∨ k = b ∨ vw.ownBlock = some k ∨ vb.ownBlock = some k) → bM ≠ k := by
    rintro k hk rfl
    obtain ⟨_, _, cur, t, hc, _⟩ := hp.blocks _ hk
    rw [hm] at hc; cases hc
  refine h.kept (hS.block bM h.lt (no b (.inr (.inl rfl))) (fun e => ?_) (fun e => ?_))
  · exact no bM (.inr (.inr (.inl e.symm))) rfl
  · exact no bM (.inr (.inr (.inr e.symm))) rfl

/-- What a walk over the map needs, at a place. -/
theorem IsMv.look {bM n : Nat} {d : Nat → Nat} (h : IsMv w bM n d) (p : Nat) (hp : p ≤ 1048576) (hd : d p ≤ 1048576) :
    ∃ c : Int, (Instr.lookup 75 (.map (some bM)) (.int .i64 p) true).run Tryz.prog w = .ok (.tuple #[.int .i64 c, .bool (decide (d p ≠ p))]) w ∧ (d p ≠ p → c = (d p : Nat)) := by
  obtain ⟨D, h1, h2⟩ := h
  have hkey : keyOf Tryz.prog 2 (.int .i64 (p : Int)) = some (.int .i64 (p : Int)) := keyOf_int_mk Tryz.underlying2 (wfK (by omega))
  obtain ⟨v, ps, hrun, hv⟩ := h1.look_ok lawK Tryz.underlying75 (zeroK w) (plainElem_int Tryz.underlying2 (wfK (by omega))) hkey
  obtain ⟨c, rfl, hc, hwc⟩ := plainElem_int_inv Tryz.underlying2 hv
  refine ⟨c, by rw [hrun, (h2 p).1], fun hne => ?_⟩
  have := (h2 p).2 hne
  rw [show D.atKey (.int .i64 (p : Int)) (.lit (.int .i64 0)) = .lit (.int .i64 c) from congrArg Prod.fst hc] at this
  simpa using this

set_option maxHeartbeats 400000 in
theorem place_in {bM n : Nat} {d : Nat → Nat} (h : IsMv w bM n d) (p : Nat) (hp : p ≤ 1048576) (hd : d p ≤ 1048576) :
    Calls Tryz.prog 78 #[.map (some bM), .int .i64 p] w fun e w' => e = .returned (.int .i64 (d p : Nat)) ∧ w' = w := by
  obtain ⟨c, hrun, hc⟩ := h.look p hp hd
  by_cases hne : d p = p
  · have e0 : decide (d p ≠ p) = false := by simp [hne]
    rw [e0] at hrun
    rw [hne]
    clear hc e0
    go_enter Tryz.func78, Tryz.ntmps78
    go_wp2
    go_ret
    exact ⟨rfl, rfl⟩
  · have e0 : decide (d p ≠ p) = true := by simp [hne]
    rw [e0, hc hne] at hrun
    clear hc e0
    go_enter Tryz.func78, Tryz.ntmps78
    go_wp2
    go_ret
    exact ⟨rfl, rfl⟩

/-- The plan, one object on. -/
theorem plan_other {pre : List Ob} {o : Ob} {lo p : Nat} (hs : Srt lo (pre ++ [o])) (hp : p ≠ o.at_) : dst 0 (pre ++ [o]) p = dst 0 pre p := by
  by_cases h : ∃ q ∈ pre, q.at_ = p
  · exact dst_append_some h
  · have h' : ∀ q ∈ pre, q.at_ ≠ p := fun q hq e => h ⟨q, hq, e⟩
    rw [dst_append_none h', dst_none h']
    simp only [dst]
    rw [if_neg (fun e => hp e.symm)]

theorem plan_here {pre : List Ob} {o : Ob} {lo : Nat} (hs : Srt lo (pre ++ [o])) : dst 0 (pre ++ [o]) o.at_ = sumO pre := by
  have := dst_at (l := pre) (o := o) (r := []) (e := 0) hs
  simpa using this

theorem plan_before {pre : List Ob} {o : Ob} {lo : Nat} (hs : Srt lo (pre ++ [o])) : dst 0 pre o.at_ = o.at_ :=
  dst_none (fun q hq e => by have := Srt.apart hs q hq o (by simp); unfold Ob.end_ at this; omega)

theorem IsMv.same {bM n : Nat} {d d' : Nat → Nat} (h : IsMv w bM n d) (e : ∀ p, d' p = d p) : IsMv w bM n d' := by
  have : d' = d := funext e
  rw [this]; exact h

theorem IsMv.put {bM n : Nat} {d d' : Nat → Nat} {D : DataW Unit} {w1 : World} {q t : Nat} (hm : IsMap D) (h2 : ∀ p : Nat, Maps.has D (.int .i64 p) = decide (d p ≠ p) ∧ (d p ≠ p → D.atKey (.int .i64 p) (.lit (.int .i64 0)) = .lit (.int .i64 (d p : Nat))))
    (h1 : w1.ownsMap Tryz.prog 2 (plainElem Tryz.prog 2) bM n (D.put (.int .i64 q) (.lit (.int .i64 t)))) (hne : t ≠ q) (eq : d' q = t) (eo : ∀ p, p ≠ q → d' p = d p) : IsMv w1 bM n d' := by
  refine ⟨_, h1, fun p => ?_⟩
  by_cases hp : p = q
  · subst hp
    rw [has_put_same hm (by simp [WideAt.IsKeyLit]), eq]
    refine ⟨by simp [hne], fun _ => ?_⟩
    rw [atKey_put_same hm (by simp [WideAt.IsKeyLit])]
  · have hk : (Lit.int .i64 (p : Int)) ≠ Lit.int .i64 (q : Int) := by
      intro e
      injection e with _ e
      exact hp (by omega)
    rw [has_put_other hk, atKey_put_other hk, eo p hp]
    exact h2 p

set_option maxRecDepth 20000 in
set_option maxHeartbeats 1000000 in
theorem plan_in (h : Hp n₀ bh b vw vb w lim used M) {L : List Ob} (hL : ∀ o ∈ L, o ∈ M) (hs : Srt 0 L) (q : Option Addr) (c base : Nat) (hrow : w.ownsRow base 2 1 (.slice q L.length c) L.length (L.map (fun o => pv o.at_))) :
    Calls Tryz.prog 35 #[.pointer (some ⟨bh, 0, none⟩), .slice q L.length c] w fun e w' => e = .returned (.tuple #[.map (some w.heap.size), .int .i64 (sumO L : Nat)]) ∧ IsMv w' w.heap.size L.length (dst 0 L) ∧ Below w.heap.size w w' := by
  have hmm := @run_makeMap Tryz.prog
  have hle := h.le
  have hsum := Srt.sum_used hs (fun o ho => h.srt.2 o (hL o ho)) (Nat.zero_le _)
  have hlen := Srt.length_le hs (fun o ho => h.srt.2 o (hL o ho)) (Nat.zero_le _)
  have hlt := h.lt
  go_enter Tryz.func35, Tryz.ntmps35
  go_wp2
  go_loopw [7, 13] (fun t k wr => ∃ (pre rest : List Ob), L = pre ++ rest ∧ t = .int .i64 (sumO pre : Nat) ∧ k = .int .i64 pre.length ∧ IsMv wr w.heap.size pre.length (dst 0 pre) ∧ Below w.heap.size w wr) (fun _ k _ => L.length - (intOf k).toNat)
  case atStart =>
    refine ⟨[], L, rfl, rfl, rfl, ⟨.map [], World.ownsMap_made _ _ _ _, fun p => ⟨?_, fun h => (h rfl).elim⟩⟩, below1 _ _⟩
    simp [has_eq, dst]
  case round =>
    obtain ⟨pre, rest, hR, rfl, rfl, hmv, hB⟩ := hrel
    cases rest with
    | nil =>
      have hR' : L = pre := by simpa using hR
      have hq : ¬ ((pre.length : Int) < (L.length : Int)) := by rw [hR']; omega
      have HR : Hid _ := And.intro hR' hmv
      clear hR hR' hmv
      go_wp2
      go_ret2
      obtain ⟨q1, q2⟩ := HR.out
      rw [q1]
      exact ⟨rfl, q2, hB⟩
    | cons o rest =>
      have hom : o ∈ L := by rw [hR]; simp
      have hlR : pre.length < L.length := by rw [hR]; simp
      obtain ⟨lq, rq, hM⟩ := List.append_of_mem (hL o hom)
      have hrw := row_kept hrow (fun k hk => hB.block k (hrow.lt k hk).2)
      have H3 := fun w2 (hB2 : Below w.heap.size w w2) => taken_in (o := o) (l := lq) (r := rq) (by have := h.below hB2; rw [hM] at this; exact this)
      obtain ⟨g, rfl⟩ := row_where hrow (by omega)
      have d1 : wr.cell? ⟨g, pre.length, none⟩ = some (.int .i64 o.at_) := row_cell hrw (by rw [hR]; simp [pv]) hlR
      have hwo := h.srt.2 o (hL o hom)
      have hs1 : Srt 0 (pre ++ [o]) := by rw [show L = (pre ++ [o]) ++ rest by rw [hR]; simp, Srt_append] at hs; exact hs.1
      have hsm := hs1.sum_le
      have e1 : (((pre ++ [o]).length : Nat) : Int) = pre.length + 1 := by simp
      have e2 : ((sumO (pre ++ [o]) : Nat) : Int) = sumO pre + (o.ws.length + 1 : Nat) := by rw [sumO_snoc]; simp
      unfold Ob.end_ at hwo
      have HR : Hid _ := hR
      by_cases hne : o.at_ = sumO pre
      · have hnb : ((o.at_ : Int) == (sumO pre : Int)) = true := by simp; omega
        have hmv' : IsMv wr w.heap.size (pre ++ [o]).length (dst 0 (pre ++ [o])) := by
          obtain ⟨D, g1, g2⟩ := hmv.same (d' := dst 0 (pre ++ [o])) (fun p => by
            by_cases hp : p = o.at_
            · rw [hp, plan_here hs1, plan_before hs1, hne]
            · exact plan_other hs1 hp)
          exact ⟨D, g1.mono (by simp), g2⟩
        clear hR hM hs1 hne hmv
        go_wp2_with (first
          | (go_at_call 77; refine (H3 _ hB).mono ?_; clear H3; rintro e w' ⟨rfl, rfl⟩))
        go_roundw
        case rel =>
          refine ⟨pre ++ [o], rest, by have := HR.out; simpa using this, ?_, by rw [e1], hmv', hB⟩
          rw [e2]
          try rfl
        case measure => simp [intOf]; omega
      · have hnb : ((o.at_ : Int) == (sumO pre : Int)) = false := by simp; omega
        obtain ⟨D, g1, g2⟩ := hmv
        have hkey : keyOf Tryz.prog 2 (.int .i64 (o.at_ : Int)) = some (.int .i64 (o.at_ : Int)) := keyOf_int_mk Tryz.underlying2 (wfK (by omega))
        have hms := g1.isMap
        have HN : Hid _ := hne
        clear hR hM hne
        go_wp2_with (first
          | (at_mapUpdate; refine wpList_mapUpdate_own _ rfl _ _ _ 75 rfl 2 2 lawK Tryz.underlying75 _ w.heap.size pre.length _ rfl g1 (by unfold maxLen; omega) _ _ _ rfl rfl hkey _ [] (plainElem_int Tryz.underlying2 (wfK (by omega))) ?_; intro w1 hown1 hgrow1; have hB1 := hB.grown hgrow1 hB.size (fun j hj => by cases hj; exact Nat.le_refl _))
          | (go_at_call 77; refine (H3 _ hB1).mono ?_; clear H3; rintro e w' ⟨rfl, rfl⟩)
          | go_in)
        go_roundw
        case rel =>
          refine ⟨pre ++ [o], rest, by have := HR.out; simpa using this, ?_, by rw [e1], ?_, hB1⟩
          · rw [e2]
            try rfl
          · have := IsMv.put (d := dst 0 pre) (d' := dst 0 (pre ++ [o])) hms g2 hown1 (fun e => HN.out e.symm) (plan_here hs1) (fun p hp => plan_other hs1 hp)
            simpa using this
        case measure => simp [intOf]; omega

end Go.Proofs.YtpoidldafpfalaaGreat

namespace Go.Proofs.YtpoidldafpfalaaGreat
set_option linter.unusedVariables false
set_option linter.unusedSimpArgs false
open Go.RowKit Go.Maps Go.WideElems Go.MapKept
open Go.WideMaps (KeyLaw)
open Go.ChangeMaps (setBlock heap_setBlock_same heap_setBlock_other)

variable {w : World}

/-- A body. -/
structure Bd where
  count : Nat
  room : Nat
  inn : Nat

def Bd.agg (x : Bd) : Value := .agg #[.int .i64 x.count, .int .i64 x.room, .int .i64 x.inn, .int .i64 0]

def Bd.fits (x : Bd) : Prop := x.count ≤ 4611686018427387904 ∧ x.room ≤ 4611686018427387904 ∧ x.inn ≤ 4611686018427387904

theorem rowBd : (58 : TypeId) < Tryz.prog.types.size := of_decide_eq_true (by kernel_rfl)

theorem wideBd : (match Tryz.prog.underlying 58 with | some (.array _ _) | some (.struct _) => true | _ => false) = true := by kernel_rfl

set_option maxRecDepth 100000 in
theorem lawBd : KeyLaw Tryz.prog 58 := deep_law_laid laidOut0 (m := 3) (by omega) rowBd (by kernel_rfl) wideBd

theorem keyedBd : Keyed Tryz.prog 58 := Keyed.of_law lawBd

theorem keyTypeBd : Tryz.prog.keyType 58 = true := by kernel_rfl

theorem cellsBd : Tryz.prog.cellsOf 58 = 4 := by kernel_rfl

def litB (x : Bd) : Lit := .string (keyBytes [.int .i64 x.count, .int .i64 x.room, .int .i64 x.inn, .int .i64 0])

set_option maxRecDepth 100000 in
theorem keyOf_bd {x : Bd} (h : x.fits) : keyOf Tryz.prog 58 x.agg = some (litB x) := by
  unfold Bd.agg
  obtain ⟨m, hm⟩ : ∃ m, Tryz.prog.types.size = m + 1 := ⟨Tryz.prog.types.size - 1, (Nat.succ_pred_eq_of_pos (Nat.lt_of_le_of_lt (Nat.zero_le _) rowBd)).symm⟩
  have c0 : Tryz.prog.cellsOf 3 = 1 := by kernel_rfl
  have c1 : Tryz.prog.cellsOf 2 = 1 := by kernel_rfl
  obtain ⟨h1, h2, h3⟩ := h
  have w0 : (Lit.int .i64 (x.count : Int)).wf = true := wfI64 (by omega)
  have w1 : (Lit.int .i64 (x.room : Int)).wf = true := wfI64 (by omega)
  have w2 : (Lit.int .i64 (x.inn : Int)).wf = true := wfI64 (by omega)
  have w3 : (Lit.int .i64 (0 : Int)).wf = true := wfI64 (by omega)
  have hf : (Value.agg #[.int .i64 x.count, .int .i64 x.room, .int .i64 x.inn, .int .i64 0]).formed Tryz.prog 58 = true := by
    simp [Value.formed, Tryz.underlying58, cellsBd]
  have hlits : Tryz.prog.keyLits (Tryz.prog.types.size + 1) 58 [.int .i64 x.count, .int .i64 x.room, .int .i64 x.inn, .int .i64 0] = some [.int .i64 x.count, .int .i64 x.room, .int .i64 x.inn, .int .i64 0] := by
    rw [hm]
    simp [Program.keyLits, Tryz.underlying58, cellsBd, c0, c1, Tryz.underlying3, Tryz.underlying2, w0, w1, w2, w3]
  unfold keyOf
  rw [Tryz.underlying58]
  simp only [keyTypeBd, hf, Bool.and_self, if_true]
  rw [show (Value.agg #[.int .i64 x.count, .int .i64 x.room, .int .i64 x.inn, .int .i64 0]).cells.toList = [.int .i64 x.count, .int .i64 x.room, .int .i64 x.inn, .int .i64 0] from rfl, hlits]
  rfl

noncomputable def RB (v : Value) : Option (DataW Unit × List MemPlace) := (keyOf Tryz.prog 58 v).map (fun l => (.lit l, []))

theorem RB_bd {x : Bd} (h : x.fits) : RB x.agg = some (.lit (litB x), []) := by unfold RB; rw [keyOf_bd h]; rfl

theorem bd0 : Bd.fits ⟨0, 0, 0⟩ := by unfold Bd.fits; simp

theorem RB_zero : RB (.agg #[.int .i64 0, .int .i64 0, .int .i64 0, .int .i64 0]) = some (.lit (litB ⟨0, 0, 0⟩), []) := by
  have := RB_bd bd0
  simpa [Bd.agg] using this

theorem RB_inv {x : Value} {v : Bd} {ps : List MemPlace} (hv : v.fits) (h : RB x = some (.lit (litB v), ps)) : x = v.agg := by
  unfold RB at h
  cases hk : keyOf Tryz.prog 58 x with
  | none => rw [hk] at h; cases h
  | some l =>
    rw [hk] at h
    simp only [Option.map_some, Option.some.injEq, Prod.mk.injEq, DataW.lit.injEq] at h
    obtain ⟨rfl, -⟩ := h
    exact keyedBd.inj hk (keyOf_bd hv)

set_option maxRecDepth 100000 in
theorem zeroB (w : World) : (zeroValue 58).run Tryz.prog w = .ok (.agg #[.int .i64 0, .int .i64 0, .int .i64 0, .int .i64 0]) w := by kernel_rfl

theorem lawI : Keyed Tryz.prog 2 := int_keyed Tryz.underlying2

theorem keyOf_at {p : Nat} (hp : p ≤ 1048576) : keyOf Tryz.prog 2 (.int .i64 (p : Int)) = some (.int .i64 (p : Int)) := keyOf_int_mk Tryz.underlying2 (wfI64 (by omega))

/-- Nothing was met; one was. -/
def Met0 (w : World) (b : Nat) : Prop := w.ownsMap Tryz.prog 2 RB b 0 (.map [])

def Met1 (w : World) (b p : Nat) (x : Bd) : Prop := w.ownsMap Tryz.prog 2 RB b 1 (.map [(.int .i64 (p : Int), .lit (litB x))])

def Num1 (w : World) (b p : Nat) : Prop := w.ownsMap Tryz.prog 2 (plainElem Tryz.prog 2) b 1 (DataW.map (H := Unit) [(.int .i64 (p : Int), .lit (.int .i64 1))])

theorem Met0.made (w : World) : Met0 (w.alloc (.map #[] 0)) w.heap.size := World.ownsMap_made _ _ _ _

theorem Met0.kept {b : Nat} (h : Met0 w b) {w' : World} (hk : w'.heap[b]? = w.heap[b]?) : Met0 w' b := owns_same h hk

theorem Met1.kept {b p : Nat} {x : Bd} (h : Met1 w b p x) {w' : World} (hk : w'.heap[b]? = w.heap[b]?) : Met1 w' b p x := owns_same h hk

theorem Num1.kept {b p : Nat} (h : Num1 w b p) {w' : World} (hk : w'.heap[b]? = w.heap[b]?) : Num1 w' b p := owns_same h hk

theorem Met0.lt {b : Nat} (h : Met0 w b) : b < w.heap.size := World.ownsMap.lt h

theorem Met1.lt {b p : Nat} {x : Bd} (h : Met1 w b p x) : b < w.heap.size := World.ownsMap.lt h

theorem Num1.lt {b p : Nat} (h : Num1 w b p) : b < w.heap.size := World.ownsMap.lt h

theorem Met1.isMap {b p : Nat} {x : Bd} (h : Met1 w b p x) : ∃ es cl, w.heap[b]? = some (.map es cl) := by obtain ⟨es, cl, h1, _⟩ := h; exact ⟨es, cl, h1⟩

theorem Met0.isMap {b : Nat} (h : Met0 w b) : ∃ es cl, w.heap[b]? = some (.map es cl) := by obtain ⟨es, cl, h1, _⟩ := h; exact ⟨es, cl, h1⟩

theorem Num1.isMap {b p : Nat} (h : Num1 w b p) : ∃ es cl, w.heap[b]? = some (.map es cl) := by obtain ⟨es, cl, h1, _⟩ := h; exact ⟨es, cl, h1⟩

theorem one_put (p : Nat) (d : DataW Unit) : (DataW.map []).put (.int .i64 (p : Int)) d = .map [(.int .i64 (p : Int), d)] := by
  simp [DataW.put, DataW.insert]

/-- What is not there is not found, and is put. -/
theorem Met0.look {b p : Nat} (h : Met0 w b) (hp : p ≤ 1048576) : ∀ W : World, W.heap[b]? = w.heap[b]? → (Instr.lookup 64 (.map (some b)) (.int .i64 (p : Int)) true).run Tryz.prog W = .ok (.tuple #[.agg #[.int .i64 0, .int .i64 0, .int .i64 0, .int .i64 0], .bool false]) W := by
  intro W hW
  obtain ⟨x, ps, hrun, hx⟩ := (h.kept hW).look_ok lawI Tryz.underlying64 (zeroB W) RB_zero (keyOf_at hp)
  have hno : has (DataW.map (H := Unit) []) (.int .i64 (p : Int)) = false := by simp [has]
  rw [atKey_of_not_has hno] at hx
  have := RB_inv bd0 hx
  unfold Bd.agg at this
  rw [hrun, hno, this]
  rfl

theorem Met0.put {b p : Nat} {x : Bd} (h : Met0 w b) (hp : p ≤ 1048576) (hx : x.fits) : ∀ W : World, W.heap[b]? = w.heap[b]? → ∃ w2, (Instr.mapUpdate 64 (.map (some b)) (.int .i64 (p : Int)) x.agg).run Tryz.prog W = .ok () w2 ∧ Met1 w2 b p x ∧ W.grownBy w2 (some b) := by
  intro W hW
  obtain ⟨w2, hrun, hown, hg⟩ := (h.kept hW).update lawI Tryz.underlying64 (by unfold maxLen; omega) (keyOf_at hp) (RB_bd hx)
  rw [one_put] at hown
  exact ⟨w2, hrun, hown, hg⟩

/-- What is there. -/
theorem Met1.look {b p : Nat} {x : Bd} (h : Met1 w b p x) (hp : p ≤ 1048576) (hx : x.fits) : ∀ W : World, W.heap[b]? = w.heap[b]? → (Instr.lookup 64 (.map (some b)) (.int .i64 (p : Int)) false).run Tryz.prog W = .ok x.agg W := by
  intro W hW
  obtain ⟨v, ps, hrun, hv⟩ := World.ownsMap.lookup (h.kept hW) lawI Tryz.underlying64 (zeroB W) RB_zero (keyOf_at hp)
  have e : (DataW.map (H := Unit) [(.int .i64 (p : Int), .lit (litB x))]).atKey (.int .i64 (p : Int)) (.lit (litB ⟨0, 0, 0⟩)) = .lit (litB x) := by simp [DataW.atKey, Lit.sameKey]
  rw [e] at hv
  rw [hrun, RB_inv hx hv]

theorem Num1.look {b p : Nat} (h : Num1 w b p) (hp : p ≤ 1048576) : ∀ W : World, W.heap[b]? = w.heap[b]? → (Instr.lookup 69 (.map (some b)) (.int .i64 (p : Int)) false).run Tryz.prog W = .ok (.int .i64 1) W := by
  intro W hW
  obtain ⟨c, hrun, hc, _⟩ := World.ownsMap.lookup_int (h.kept hW) lawI Tryz.underlying69 Tryz.underlying2 (zeroK W) (keyOf_at hp)
  have e : (DataW.map (H := Unit) [(.int .i64 (p : Int), .lit (.int .i64 1))]).atKey (.int .i64 (p : Int)) (.lit (.int .i64 0)) = .lit (.int .i64 1) := by simp [DataW.atKey, Lit.sameKey]
  rw [e] at hc
  simp at hc
  rw [hrun, ← hc]

theorem num_put {b p : Nat} (h : w.ownsMap Tryz.prog 2 (plainElem Tryz.prog 2) b 0 (DataW.map (H := Unit) [])) (hp : p ≤ 1048576) : ∀ W : World, W.heap[b]? = w.heap[b]? → ∃ w2, (Instr.mapUpdate 69 (.map (some b)) (.int .i64 (p : Int)) (.int .i64 1)).run Tryz.prog W = .ok () w2 ∧ Num1 w2 b p ∧ W.grownBy w2 (some b) := by
  intro W hW
  obtain ⟨w2, hrun, hown, hg⟩ := (owns_same h hW).update lawI Tryz.underlying69 (by unfold maxLen; omega) (keyOf_at hp) (plainElem_int (a := 1) Tryz.underlying2 (wfK (by omega)))
  rw [one_put] at hown
  exact ⟨w2, hrun, hown, hg⟩

theorem keys_one (p : Nat) (d : DataW Unit) : intKeys (DataW.map [(.int .i64 (p : Int), d)]) = [(p : Int)] := by simp [intKeys, Go.intOf]

theorem size_one (p : Nat) (d : DataW Unit) : Maps.size (DataW.map [(.int .i64 (p : Int), d)]) = 1 := by simp [Maps.size]

end Go.Proofs.YtpoidldafpfalaaGreat
