/- A map whose keys are structs: the entry that is made first, and filled behind. Sets: a map by its keys alone. -/
import Derived.Test.YtgokofomoachaaaGreatDoorShTour
import Derived.WideKeyEntry
import Derived.DeepKeys4
import Derived.Maps.OwnOps
import Derived.Maps.OwnSet
import Derived.Maps.Views
import Derived.Test.YtgokofomoachaaaGreatDoorShMayBe
import Derived.Test.YtgokofomoachaaaGreatDoorShTold
namespace Go.Proofs.YtgokofomoachaaaGreatDoor
set_option linter.unusedVariables false
set_option linter.unusedSimpArgs false
open Go.RowKit Go.Maps Go.WideElems Go.MapKept
open Go.WideMaps (KeyLaw)
open Go.ChangeMaps (setBlock heap_setBlock_same heap_setBlock_other)

variable {w : World}

theorem owns_same {H : Type} {P : Program} {k : TypeId} {R : Value → Option (DataW H × List MemPlace)} {w w' : World} {b n : Nat} {D : DataW H} (h : w.ownsMap P k R b n D) (hk : w'.heap[b]? = w.heap[b]?) : w'.ownsMap P k R b n D := by
  obtain ⟨es, cl, h1, h2⟩ := h
  exact ⟨es, cl, hk.trans h1, h2⟩

theorem grown_set {w : World} {b : Nat} {es es' : Array MapEntry} {cl cl' : Nat} (hb : w.heap[b]? = some (.map es cl)) : w.grownBy (setBlock w b (.map es' cl')) (some b) :=
  ⟨rfl, rfl, rfl, by simp [setBlock], fun i _ hi => heap_setBlock_other hb _ (fun e => hi (by rw [e]))⟩

theorem entry_look {H : Type} {P : Program} {k e t : TypeId} {R : Value → Option (DataW H × List MemPlace)} {w : World} {b n : Nat} {D : DataW H} (K : KeyLaw P k) (ht : P.underlying t = some (.map k e)) {z : Value} (hz : ∀ u : World, (zeroValue e).run P u = .ok z u) {zd : DataW H} {zp : List MemPlace} (hzd : R z = some (zd, zp))
    (h : w.ownsMap P k R b n D) (hn : n < maxLen) {key : Value} {kl : Lit} (hkey : keyOf P k key = some kl) :
    ∃ v0 st w1, (Instr.mapEntry t (.map (some b)) key).run P w = .ok (.tuple #[v0, goInt st]) w1 ∧ (∃ D1 n1, w1.ownsMap P k R b n1 D1 ∧ D1.atKey kl zd = D.atKey kl zd) ∧ w.grownBy w1 (some b) ∧
      ∀ (w2 : World) (val : Value) (d : DataW H) (ps : List MemPlace), w2.heap[b]? = w1.heap[b]? → R val = some (d, ps) → ∃ w3, (Instr.entryStore t (.map (some b)) (goInt st) val).run P w2 = .ok () w3 ∧ w3.ownsMap P k R b (n + 1) (D.put kl d) ∧ w2.grownBy w3 (some b) := by
  obtain ⟨es, clock, hb, F, hs, hD⟩ := id h
  obtain ⟨v0, st, es1, clock1, hrun, hv0, hst⟩ := entry_then_store K ht hz hb F hkey
  have hb1 := heap_setBlock_same hb (.map es1 clock1)
  refine ⟨v0, st, _, hrun, ?_, grown_set hb, ?_⟩
  · rcases K.find w hkey es.toList F.keys with ⟨h1, h2⟩ | ⟨j, e0, h1, h2, h3⟩
    · obtain ⟨w', hu, hown, -⟩ := h.update (Keyed.of_law K) ht hn hkey hzd
      have e1 : (Instr.mapUpdate t (.map (some b)) key z).run P w = .ok () (setBlock w b (.map (es.push ⟨key, z, clock⟩) (clock + 1))) := by
        simp [Instr.mapUpdate, run_underlying ht, MapKept.run_getObj_map hb, K.check w false hkey, h1, MapKept.run_setObj_map _ hb, Result.andThen, setBlock]
      have e2 : (Instr.mapEntry t (.map (some b)) key).run P w = .ok (.tuple #[z, goInt clock]) (setBlock w b (.map (es.push ⟨key, z, clock⟩) (clock + 1))) := by
        simp [Instr.mapEntry, run_underlying ht, MapKept.run_getObj_map hb, K.check w false hkey, h1, hz, MapKept.run_setObj_map _ hb, Result.andThen, setBlock]
      rw [e1] at hu
      rw [hrun] at e2
      injection hu with _ hu
      injection e2 with _ e2
      rw [e2, hu]
      refine ⟨_, _, hown, ?_⟩
      rw [atKey_put_same h.isMap ((Keyed.of_law K).key hkey)]
      rcases Maps.fit_look false (Keyed.of_law K) ht (hz w) hb F hkey with ⟨_, _, hat⟩ | ⟨e0, y, hm, hk, _⟩
      · rw [hD, hat]
      · exact (h2 e0 hm hk).elim
    · have hj : es[j]? = some e0 := by simpa using h2
      have hsame : es.modify j (fun e => { e with key := key }) = es := by
        apply Array.ext'
        rw [Array.toList_modify, Go.ChangeMaps.modify_eq_set _ _ _ _ h2]
        have : ({ e0 with key := key } : MapEntry) = e0 := by rw [← h3]
        rw [this]
        exact set_self _ _ _ h2
      have e2 : (Instr.mapEntry t (.map (some b)) key).run P w = .ok (.tuple #[e0.val, goInt e0.born]) (setBlock w b (.map es clock)) := by
        simp [Instr.mapEntry, run_underlying ht, MapKept.run_getObj_map hb, K.check w false hkey, h1, hj, h3, K.stays w hkey, hsame, MapKept.run_setObj_map _ hb, Result.andThen, setBlock]
      rw [hrun] at e2
      injection e2 with _ e2
      rw [e2]
      exact ⟨D, n, owns_same h ((heap_setBlock_same hb _).trans hb.symm), rfl⟩
  · intro w2 val d ps hw2 hval
    obtain ⟨es', clock', hr2, hup⟩ := hst w2 val (hw2.trans hb1)
    obtain ⟨w', hu, hown, -⟩ := h.update (Keyed.of_law K) ht hn hkey hval
    rw [hup] at hu
    injection hu with _ hu
    refine ⟨_, hr2, ?_, grown_set (hw2.trans hb1)⟩
    refine owns_same hown ?_
    rw [← hu]
    exact (heap_setBlock_same (hw2.trans hb1) _).trans (heap_setBlock_same hb _).symm

/-- A map by its keys: a set. -/
def IsSet (w : World) (kt b n : Nat) (L : List Lit) : Prop :=
  ∃ D : DataW Unit, w.ownsMap Tryz.prog kt (plainElem Tryz.prog 3) b n D ∧ L.Nodup ∧ (∀ k, has D k = true ↔ k ∈ L) ∧ size D = L.length ∧ ∀ k, ∃ c : Nat, D.atKey k (.lit (.int .i64 0)) = .lit (.int .i64 c) ∧ c ≤ n

theorem IsSet.kept {kt b n : Nat} {L : List Lit} (h : IsSet w kt b n L) {w' : World} (hk : w'.heap[b]? = w.heap[b]?) : IsSet w' kt b n L := by
  obtain ⟨D, h1, h2⟩ := h
  exact ⟨D, owns_same h1 hk, h2⟩

theorem IsSet.lt {kt b n : Nat} {L : List Lit} (h : IsSet w kt b n L) : b < w.heap.size := by obtain ⟨D, h1, _⟩ := h; exact h1.lt

theorem IsSet.more {kt b n m : Nat} {L : List Lit} (h : IsSet w kt b n L) (hm : n ≤ m) : IsSet w kt b m L := by
  obtain ⟨D, h1, h2, h3, h4, h5⟩ := h
  exact ⟨D, h1.mono hm, h2, h3, h4, fun k => by obtain ⟨c, hc, hn⟩ := h5 k; exact ⟨c, hc, by omega⟩⟩

theorem IsSet.made (w : World) (kt : Nat) : IsSet (w.alloc (.map #[] 0)) kt w.heap.size 0 [] :=
  ⟨.map [], World.ownsMap_made _ _ _ _, by simp, by simp [has], rfl, fun k => ⟨0, by simp [DataW.atKey], Nat.le_refl _⟩⟩

/-- A key is put. -/
def putL (L : List Lit) (kl : Lit) (dec : Decidable (kl ∈ L) := Classical.propDecidable _) : List Lit := @ite _ (kl ∈ L) dec L (L ++ [kl])

theorem set_put {D : DataW Unit} {L : List Lit} {kl : Lit} {n c : Nat} (hm : IsMap D) (ht : Tidy D) (hk : WideAt.IsKeyLit kl) (h2 : L.Nodup) (h3 : ∀ k, has D k = true ↔ k ∈ L) (h4 : size D = L.length) (h5 : ∀ k, ∃ c : Nat, D.atKey k (.lit (.int .i64 0)) = .lit (.int .i64 c) ∧ c ≤ n) (hc : c ≤ n) :
    (putL L kl).Nodup ∧ (∀ k, has (D.put kl (.lit (.int .i64 ((c : Int) + 1)))) k = true ↔ k ∈ putL L kl) ∧ size (D.put kl (.lit (.int .i64 ((c : Int) + 1)))) = (putL L kl).length ∧ ∀ k, ∃ c' : Nat, (D.put kl (.lit (.int .i64 ((c : Int) + 1)))).atKey k (.lit (.int .i64 0)) = .lit (.int .i64 c') ∧ c' ≤ n + 1 := by
  have hmem : ∀ k, k ∈ putL L kl ↔ k ∈ L ∨ k = kl := by
    intro k
    unfold putL
    split
    · rename_i h
      constructor
      · exact .inl
      · rintro (h' | rfl)
        · exact h'
        · exact h
    · simp
  refine ⟨?_, ?_, ?_, ?_⟩
  · unfold putL
    split
    · exact h2
    · rename_i h
      rw [List.nodup_append]
      exact ⟨h2, by simp, by rintro a ha b hb rfl; simp at hb; subst hb; exact h ha⟩
  · intro k
    rw [hmem]
    by_cases e : k = kl
    · subst e; simp [has_put_same hm hk]
    · rw [has_put_other e, h3]; simp [e]
  · rw [size_put ht]
    unfold putL
    by_cases e : kl ∈ L
    · rw [if_pos ((h3 kl).2 e), if_pos e]; exact h4
    · rw [if_neg (fun h => e ((h3 kl).1 h)), if_neg e]; simp [h4]
  · intro k
    by_cases e : k = kl
    · subst e
      rw [atKey_put_same hm hk]
      exact ⟨c + 1, by simp, by omega⟩
    · rw [atKey_put_other e]
      obtain ⟨c', h, hn⟩ := h5 k
      exact ⟨c', h, by omega⟩

/-- 'm[k]++', by a lookup and an update. -/
theorem IsSet.count {kt mt b n : Nat} {L : List Lit} (h : IsSet w kt b n L) (K : Keyed Tryz.prog kt) (ht : Tryz.prog.underlying mt = some (.map kt 3)) (hn : n ≤ 1099511627776) {key : Value} {kl : Lit} (hkey : keyOf Tryz.prog kt key = some kl) :
    ∃ c : Nat, c ≤ n ∧ (∀ W : World, W.heap[b]? = w.heap[b]? → (Instr.lookup mt (.map (some b)) key false).run Tryz.prog W = .ok (.int .i64 c) W) ∧
      ∀ W : World, W.heap[b]? = w.heap[b]? → ∃ w2, (Instr.mapUpdate mt (.map (some b)) key (.int .i64 ((c : Int) + 1))).run Tryz.prog W = .ok () w2 ∧ IsSet w2 kt b (n + 1) (putL L kl) ∧ W.grownBy w2 (some b) := by
  obtain ⟨D, h1, h2, h3, h4, h5⟩ := h
  obtain ⟨c, hc, hcn⟩ := h5 kl
  refine ⟨c, hcn, fun W hW => ?_, fun W hW => ?_⟩
  · obtain ⟨c', hrun, hat, -⟩ := (owns_same h1 hW).lookup_int K ht Tryz.underlying3 (zeroI W) hkey
    rw [hc] at hat
    simp at hat
    rw [hrun, ← hat]
  · obtain ⟨w2, hrun, hown, hg⟩ := (owns_same h1 hW).update K ht (by unfold maxLen; omega) hkey (val := .int .i64 ((c : Int) + 1)) (plainElem_int Tryz.underlying3 (wfI (by omega)))
    obtain ⟨p1, p2, p3, p4⟩ := set_put h1.isMap (h1.tidy K) (K.key hkey) h2 h3 h4 h5 hcn
    exact ⟨w2, hrun, ⟨_, hown, p1, p2, p3, p4⟩, hg⟩

/-- 'm[k]++', by a lookup, an entry and a store into it, the lookup ahead of the entry or behind. -/
theorem IsSet.entry {kt mt b n : Nat} {L : List Lit} (h : IsSet w kt b n L) (K : KeyLaw Tryz.prog kt) (ht : Tryz.prog.underlying mt = some (.map kt 3)) (hn : n ≤ 1099511627776) {key : Value} {kl : Lit} (hkey : keyOf Tryz.prog kt key = some kl) (hz : ∀ u : World, (zeroValue 3).run Tryz.prog u = .ok (.int .i64 0) u) :
    ∃ (c : Nat) (st : Int) (v0 : Value), c ≤ n ∧ (∀ W : World, W.heap[b]? = w.heap[b]? → (Instr.lookup mt (.map (some b)) key false).run Tryz.prog W = .ok (.int .i64 c) W) ∧
      ∃ w1, (Instr.mapEntry mt (.map (some b)) key).run Tryz.prog w = .ok (.tuple #[v0, goInt st]) w1 ∧ w.grownBy w1 (some b) ∧ (∀ W : World, W.heap[b]? = w1.heap[b]? → (Instr.lookup mt (.map (some b)) key false).run Tryz.prog W = .ok (.int .i64 c) W) ∧
      ∀ W : World, W.heap[b]? = w1.heap[b]? → ∃ w2, (Instr.entryStore mt (.map (some b)) (goInt st) (.int .i64 ((c : Int) + 1))).run Tryz.prog W = .ok () w2 ∧ IsSet w2 kt b (n + 1) (putL L kl) ∧ W.grownBy w2 (some b) := by
  obtain ⟨D, h1, h2, h3, h4, h5⟩ := h
  obtain ⟨c, hc, hcn⟩ := h5 kl
  obtain ⟨v0, st, w1, hrun, ⟨D1, n1, hown1, hat1⟩, hg1, hst⟩ := entry_look K ht hz (plainElem_int Tryz.underlying3 (wfI (by omega))) h1 (by unfold maxLen; omega) hkey
  refine ⟨c, st, v0, hcn, fun W hW => ?_, w1, hrun, hg1, fun W hW => ?_, fun W hW => ?_⟩
  · obtain ⟨c', hr, hat, -⟩ := (owns_same h1 hW).lookup_int (Keyed.of_law K) ht Tryz.underlying3 (hz W) hkey
    rw [hc] at hat
    simp at hat
    rw [hr, ← hat]
  · obtain ⟨c', hr, hat, -⟩ := (owns_same hown1 hW).lookup_int (Keyed.of_law K) ht Tryz.underlying3 (hz W) hkey
    rw [hat1, hc] at hat
    simp at hat
    rw [hr, ← hat]
  · obtain ⟨w3, hr3, hown3, hg3⟩ := hst W (.int .i64 ((c : Int) + 1)) _ _ hW (plainElem_int Tryz.underlying3 (wfI (by omega)))
    obtain ⟨p1, p2, p3, p4⟩ := set_put h1.isMap (h1.tidy (Keyed.of_law K)) ((Keyed.of_law K).key hkey) h2 h3 h4 h5 hcn
    exact ⟨w3, hr3, ⟨_, hown3, p1, p2, p3, p4⟩, hg3⟩

theorem IsSet.len {kt mt b n : Nat} {L : List Lit} (h : IsSet w kt b n L) (ht : Tryz.prog.underlying mt = some (.map kt 3)) (ty : TypeId) : (Builtin.len_ #[mt] ty #[.map (some b)]).run Tryz.prog w = .ok (.int .i64 L.length) w := by
  obtain ⟨D, h1, h2, h3, h4, h5⟩ := h
  rw [h1.len ht, h4]

end Go.Proofs.YtgokofomoachaaaGreatDoor

namespace Go.Proofs.YtgokofomoachaaaGreatDoor
set_option linter.unusedVariables false
set_option linter.unusedSimpArgs false
open Go.RowKit Go.Maps
open Go.WideMaps (KeyLaw)

theorem rowVal : (27 : TypeId) < Tryz.prog.types.size := of_decide_eq_true (by kernel_rfl)

theorem laidOut0 : laidOutB Tryz.prog = true := by kernel_rfl

theorem wideVal : (match Tryz.prog.underlying 27 with | some (.array _ _) | some (.struct _) => true | _ => false) = true := by kernel_rfl

set_option maxRecDepth 100000 in
theorem lawVal : KeyLaw Tryz.prog 27 := deep_law_laid laidOut0 (m := 3) (by omega) rowVal (by kernel_rfl) wideVal

theorem lawStr : Keyed Tryz.prog 9 := string_keyed Tryz.underlying9

theorem keyTypeVal : Tryz.prog.keyType 27 = true := by kernel_rfl

/-- A value as a key. -/
def litV (v : Vl) : Lit := .string (keyBytes [.int .u8 v.k, .int .i64 v.n])

def litT (s : ByteArray) : Lit := .string s.data.toList

theorem wfK {k : Nat} (h : k < 256) : (Lit.int .u8 k).wf = true := by
  simp only [Lit.wf, IntKind.min, IntKind.max, IntKind.signed, IntKind.bits, Bool.and_eq_true]
  simp; omega

set_option maxRecDepth 100000 in
theorem keyOf_val {v : Vl} (h : v.fits) : keyOf Tryz.prog 27 (.agg #[.int .u8 v.k, .int .i64 v.n]) = some (litV v) := by
  obtain ⟨m, hm⟩ : ∃ m, Tryz.prog.types.size = m + 1 := ⟨Tryz.prog.types.size - 1, (Nat.succ_pred_eq_of_pos (Nat.lt_of_le_of_lt (Nat.zero_le _) rowVal)).symm⟩
  have c0 : Tryz.prog.cellsOf 25 = 1 := by kernel_rfl
  have c1 : Tryz.prog.cellsOf 2 = 1 := by kernel_rfl
  have w0 := wfK h.1
  have w1 := wfI h.2
  have hf : (Value.agg #[.int .u8 v.k, .int .i64 v.n]).formed Tryz.prog 27 = true := by
    simp [Value.formed, Tryz.underlying27, cellsVal]
  have hlits : Tryz.prog.keyLits (Tryz.prog.types.size + 1) 27 [.int .u8 v.k, .int .i64 v.n] = some [.int .u8 v.k, .int .i64 v.n] := by
    rw [hm]
    simp [Program.keyLits, Tryz.underlying27, cellsVal, c0, c1, Tryz.underlying25, Tryz.underlying2, w0, w1]
  unfold keyOf
  rw [Tryz.underlying27]
  simp only [keyTypeVal, hf, Bool.and_self, if_true]
  rw [show (Value.agg #[.int .u8 v.k, .int .i64 v.n]).cells.toList = [.int .u8 v.k, .int .i64 v.n] from rfl, hlits]
  rfl

theorem keyOf_str {s : ByteArray} (h : s.size ≤ maxLen) : keyOf Tryz.prog 9 (.string s) = some (litT s) := by
  rw [keyOf_string Tryz.underlying9]
  simp [mapKey, Tryz.underlying9, h, litT]

theorem litV_inj {a b : Vl} (ha : a.fits) (hb : b.fits) (h : litV a = litV b) : a = b := by
  have h1 := keyOf_val ha
  have h2 := keyOf_val hb
  rw [← h] at h2
  have := (Keyed.of_law lawVal).inj h1 h2
  simp at this
  obtain ⟨k, n⟩ := a
  obtain ⟨k', n'⟩ := b
  dsimp only at this
  rw [Vl.mk.injEq]
  omega

/-- A key's text, if it is one. -/
def clsT (S : List Om) (v : Vl) : Option ByteArray := match leadO S v with | some o => if o.k = 3 then some o.s else none | none => none

/-- What a key is counted as. -/
def clsL (S : List Om) (v : Vl) : Lit ⊕ Lit := match clsT S v with | some s => .inl (litT s) | none => .inr (litV v)

theorem clsT_text {S : List Om} {v : Vl} (hv : valP S v) (hk : v.k = 3) : ∃ o, leadO S v = some o ∧ clsT S v = some o.s := by
  have := hv.2.2 (by omega)
  cases h : leadO S v with
  | none => exact (this h).elim
  | some o =>
    refine ⟨o, rfl, ?_⟩
    unfold clsT
    rw [h]
    have := (leadO_at h).2.2.2.2.2
    simp [this, hk]

theorem clsT_other {S : List Om} {v : Vl} (hk : v.k ≠ 3) : clsT S v = none := by
  unfold clsT
  cases h : leadO S v with
  | none => rfl
  | some o =>
    have := (leadO_at h).2.2.2.2.2
    simp [this, hk]

theorem cls_same {S : List Om} {a b : Vl} (ha : valP S a) (hb : valP S b) (fa : a.fits) (fb : b.fits) : clsL S a = clsL S b ↔ sameP S a b := by
  by_cases ka : a.k = 3
  · obtain ⟨o, ho, hc⟩ := clsT_text ha ka
    by_cases kb : b.k = 3
    · obtain ⟨o', ho', hc'⟩ := clsT_text hb kb
      unfold clsL
      rw [hc, hc']
      constructor
      · intro h
        refine ⟨by omega, .inr (.inr ⟨ka, o, o', ho, ho', ?_⟩)⟩
        simp [litT] at h
        cases hx : o.s; cases hy : o'.s
        rw [hx, hy] at h
        simp at h
        rw [h]
      · rintro ⟨_, h | h | ⟨_, q, q', h1, h2, h3⟩⟩
        · omega
        · have : a = b := by obtain ⟨x, y⟩ := a; obtain ⟨x', y'⟩ := b; simp at *; omega
          subst this
          rw [ho] at ho'; cases ho'; rfl
        · rw [ho] at h1; rw [ho'] at h2; cases h1; cases h2; rw [h3]
    · unfold clsL
      rw [hc, clsT_other kb]
      constructor
      · intro h; cases h
      · rintro ⟨h, _⟩; omega
  · unfold clsL
    rw [clsT_other ka]
    by_cases kb : b.k = 3
    · obtain ⟨o', ho', hc'⟩ := clsT_text hb kb
      rw [hc']
      constructor
      · intro h; cases h
      · rintro ⟨h, _⟩; omega
    · rw [clsT_other kb]
      constructor
      · intro h
        have := litV_inj fa fb (by injection h)
        subst this
        exact ⟨rfl, .inr (.inl rfl)⟩
      · rintro ⟨h, h2⟩
        have : a = b := by
          have hn : a.n = b.n := by
            rcases h2 with h2 | h2 | ⟨h2, _⟩
            · rw [ha.1 h2, hb.1 (by omega)]
            · exact h2
            · omega
          obtain ⟨x, y⟩ := a; obtain ⟨x', y'⟩ := b; simp at *; exact ⟨h, hn⟩
        rw [this]

/-- The keys of a map. -/
def evens : List Vl → List Vl
  | [] => []
  | [a] => [a]
  | a :: _ :: r => a :: evens r

theorem evens_get : ∀ (l : List Vl) (i : Nat), (evens l)[i]? = l[2 * i]?
  | [], i => by simp [evens]
  | [a], 0 => rfl
  | [a], i + 1 => by simp [evens]
  | a :: b :: r, 0 => rfl
  | a :: b :: r, i + 1 => by
    have := evens_get r i
    rw [show 2 * (i + 1) = 2 * i + 2 by omega]
    simpa [evens] using this

theorem evens_len : ∀ (l : List Vl), 2 * (evens l).length = l.length + l.length % 2
  | [] => rfl
  | [a] => rfl
  | a :: b :: r => by have := evens_len r; simp [evens]; omega

/-- What is counted, key by key. -/
def cntStep (S : List Om) (t : List Lit × List Lit) (v : Vl) (dec : (L : List Lit) → (k : Lit) → Decidable (k ∈ L) := fun _ _ => Classical.propDecidable _) : List Lit × List Lit :=
  match clsT S v with
  | some s => (putL t.1 (litT s) (dec _ _), t.2)
  | none => (t.1, putL t.2 (litV v) (dec _ _))

def cntL (S : List Om) (ks : List Vl) (dec : (L : List Lit) → (k : Lit) → Decidable (k ∈ L) := fun _ _ => Classical.propDecidable _) : List Lit × List Lit := ks.foldl (fun t v => cntStep S t v dec) ([], [])

theorem cntL_snoc (S : List Om) (ks : List Vl) (v : Vl) : cntL S (ks ++ [v]) = cntStep S (cntL S ks) v := by
  unfold cntL; rw [List.foldl_append]; rfl

theorem putL_mem {L : List Lit} {x k : Lit} : x ∈ putL L k ↔ x ∈ L ∨ x = k := by
  unfold putL
  split
  · rename_i h
    constructor
    · exact .inl
    · rintro (h' | rfl)
      · exact h'
      · exact h
  · simp

theorem putL_len {L : List Lit} {k : Lit} : (k ∈ L → (putL L k).length = L.length) ∧ (k ∉ L → (putL L k).length = L.length + 1) := by
  unfold putL
  constructor
  · intro h; rw [if_pos h]
  · intro h; rw [if_neg h]; simp

theorem list_snoc_ind {α : Type} {P : List α → Prop} (h0 : P []) (h1 : ∀ l a, P l → P (l ++ [a])) : ∀ l, P l := by
  have key : ∀ n, ∀ l : List α, l.length = n → P l := by
    intro n
    induction n with
    | zero => intro l hl; have : l = [] := List.eq_nil_of_length_eq_zero hl; subst this; exact h0
    | succ n ih =>
      intro l hl
      have hne : l ≠ [] := by rintro rfl; simp at hl
      rw [← List.dropLast_concat_getLast hne]
      exact h1 _ _ (ih _ (by simp [hl]))
  exact fun l => key _ l rfl

theorem cnt_spec (S : List Om) (ks : List Vl) : (∀ x, x ∈ (cntL S ks).1 ↔ Sum.inl x ∈ ks.map (clsL S)) ∧ (∀ x, x ∈ (cntL S ks).2 ↔ Sum.inr x ∈ ks.map (clsL S)) ∧ (cntL S ks).1.length + (cntL S ks).2.length ≤ ks.length ∧ ((cntL S ks).1.length + (cntL S ks).2.length = ks.length ↔ (ks.map (clsL S)).Nodup) := by
  induction ks using list_snoc_ind with
  | h0 => simp [cntL]
  | h1 l v ih =>
    obtain ⟨h1, h2, h3, h4⟩ := ih
    rw [cntL_snoc]
    have hno : ((l ++ [v]).map (clsL S)).Nodup ↔ (l.map (clsL S)).Nodup ∧ clsL S v ∉ l.map (clsL S) := by
      rw [List.map_append, List.nodup_append]
      constructor
      · rintro ⟨a, _, c⟩
        exact ⟨a, fun h => c _ h (clsL S v) (by simp) rfl⟩
      · rintro ⟨a, c⟩
        refine ⟨a, by simp, ?_⟩
        rintro x hx y hy rfl
        simp at hy; subst hy; exact c hx
    cases hc : clsT S v with
    | some s =>
      have hcl : clsL S v = .inl (litT s) := by unfold clsL; rw [hc]
      have e : cntStep S (cntL S l) v = (putL (cntL S l).1 (litT s), (cntL S l).2) := by unfold cntStep; rw [hc]
      rw [e]
      dsimp only
      refine ⟨?_, ?_, ?_, ?_⟩
      · intro x
        rw [putL_mem, h1, List.map_append]
        simp [hcl]
      · intro x
        rw [h2, List.map_append]
        simp [hcl]
      · by_cases hm : litT s ∈ (cntL S l).1
        · rw [putL_len.1 hm]; simp; omega
        · rw [putL_len.2 hm]; simp; omega
      · rw [hno, hcl, ← h1, ← h4]
        by_cases hm : litT s ∈ (cntL S l).1
        · rw [putL_len.1 hm]; simp [hm]; omega
        · rw [putL_len.2 hm]; simp [hm]; omega
    | none =>
      have hcl : clsL S v = .inr (litV v) := by unfold clsL; rw [hc]
      have e : cntStep S (cntL S l) v = ((cntL S l).1, putL (cntL S l).2 (litV v)) := by unfold cntStep; rw [hc]
      rw [e]
      dsimp only
      refine ⟨?_, ?_, ?_, ?_⟩
      · intro x
        rw [h1, List.map_append]
        simp [hcl]
      · intro x
        rw [putL_mem, h2, List.map_append]
        simp [hcl]
      · by_cases hm : litV v ∈ (cntL S l).2
        · rw [putL_len.1 hm]; simp; omega
        · rw [putL_len.2 hm]; simp; omega
      · rw [hno, hcl, ← h2, ← h4]
        by_cases hm : litV v ∈ (cntL S l).2
        · rw [putL_len.1 hm]; simp [hm]; omega
        · rw [putL_len.2 hm]; simp [hm]; omega

theorem nodup_keys {S : List Om} {l : List Vl} (hv : ∀ v ∈ l, valP S v ∧ v.fits) : ((evens l).map (clsL S)).Nodup ↔ keysP S l := by
  rw [List.Nodup, List.pairwise_iff_getElem]
  constructor
  · intro h i j a b ha hb hlt hs
    have hi : i < (evens l).length := by
      rw [← evens_get] at ha
      exact (List.getElem?_eq_some_iff.1 ha).1
    have := h j i (by simp; omega) (by simpa using hi) hlt
    apply this
    rw [← evens_get] at ha hb
    obtain ⟨_, ha'⟩ := List.getElem?_eq_some_iff.1 ha
    obtain ⟨_, hb'⟩ := List.getElem?_eq_some_iff.1 hb
    simp only [List.getElem_map, ha', hb']
    rw [evens_get] at ha hb
    have q1 := hv a (List.mem_of_getElem? ha)
    have q2 := hv b (List.mem_of_getElem? hb)
    exact ((cls_same q1.1 q2.1 q1.2 q2.2).2 hs).symm
  · intro h i j hi hj hlt e
    simp at hi hj
    have ha : (evens l)[j]? = some (evens l)[j] := by simp
    have hb : (evens l)[i]? = some (evens l)[i] := by simp
    rw [evens_get] at ha hb
    have q1 := hv _ (List.mem_of_getElem? ha)
    have q2 := hv _ (List.mem_of_getElem? hb)
    refine h j i _ _ ha hb hlt ((cls_same q1.1 q2.1 q1.2 q2.2).1 ?_)
    simp only [List.getElem_map] at e
    exact e.symm

/-- All keys differ, if as many are counted as there are. -/
theorem count_keys {S : List Om} {l : List Vl} (hv : ∀ v ∈ l, valP S v ∧ v.fits) : (cntL S (evens l)).1.length + (cntL S (evens l)).2.length = (evens l).length ↔ keysP S l := by
  rw [← nodup_keys hv]
  exact (cnt_spec S (evens l)).2.2.2

end Go.Proofs.YtgokofomoachaaaGreatDoor

namespace Go.Proofs.YtgokofomoachaaaGreatDoor
set_option linter.unusedVariables false
set_option linter.unusedSimpArgs false
open Go.RowKit Go.Maps
open Go.WideMaps (KeyLaw)

variable {w : World}

theorem grown_below {w W w2 : World} {b : Nat} (h : W.grownBy w2 (some b)) (hB : Below w.heap.size w W) (hb : w.heap.size ≤ b) : Below w.heap.size w w2 :=
  ⟨h.os.trans hB.os, h.tape.trans hB.tape, h.output.trans hB.output, Nat.le_trans hB.size h.size, fun k hk => (h.block k (Nat.lt_of_lt_of_le hk hB.size) (fun e => by simp at e; omega)).trans (hB.block k hk)⟩

theorem zeroN (u : World) : (zeroValue 3).run Tryz.prog u = .ok (.int .i64 0) u := zeroI u

/-- What stands before a round. -/
structure DiffR (w : World) (bt : Nat) (S : List Om) (l : List Vl) (i : Nat) (wr : World) : Prop where
  box : wr.heap[w.heap.size]? = some (.cells #[.pointer (some ⟨bt, 0, none⟩)] 135 (0, 0))
  txt : IsSet wr 9 (w.heap.size + 1) i (cntL S ((evens l).take i)).1
  oth : IsSet wr 27 (w.heap.size + 1 + 1) i (cntL S ((evens l).take i)).2
  bel : Below w.heap.size w wr

theorem cnt_take {S : List Om} {l : List Vl} {i : Nat} {v : Vl} (h : l[2 * i]? = some v) : cntL S ((evens l).take (i + 1)) = cntStep S (cntL S ((evens l).take i)) v := by
  rw [← evens_get] at h
  rw [List.take_add_one, h]
  exact cntL_snoc _ _ _

set_option maxRecDepth 20000 in
set_option maxHeartbeats 4000000 in
theorem differ_in {w0 : World} {bt bM c cq : Nat} {vt : Value} {p q : Option Addr} {S : List Om} {l : List Vl} (hs : IsSt w0 p S) (hl : S.length ≤ maxLen) (hstr : ∀ o ∈ S, o.s.size ≤ 1048576) (hv : Vals w0 q l) (hB : Below w0.heap.size w0 w) (hblk : w.heap[bt]? = some (.cells #[.slice p S.length c, .map (some bM), vt] 312 (0, 0)))
    (hll : l.length ≤ 1048576) (hev : l.length % 2 = 0) (hval : ∀ v ∈ l, valP S v ∧ v.fits) (b : Bool) (hb : b = true ↔ keysP S l) :
    Calls Tryz.prog 238 #[.agg #[.pointer (some ⟨bt, 0, none⟩)], .slice q l.length cq] w fun e w' => e = .returned (.bool b) ∧ Below w.heap.size w w' := by
  have hmm := @run_makeMap Tryz.prog
  have hbt := (Array.getElem?_eq_some_iff.1 hblk).1
  have hw0 := hB.size
  go_enter Tryz.func238, Tryz.ntmps238
  go_wp2
  have st0 : DiffR w bt S l 0 (((w.alloc (.cells #[.pointer (some ⟨bt, 0, none⟩)] 135)).alloc (.map #[] 0)).alloc (.map #[] 0)) := by
    refine ⟨heap3_0 _ _ _ _, ?_, ?_, below3' _ _ _ _⟩
    · have h1 := IsSet.made (w.alloc (.cells #[.pointer (some ⟨bt, 0, none⟩)] 135)) 9
      have h2 := h1.kept (w' := ((w.alloc (.cells #[.pointer (some ⟨bt, 0, none⟩)] 135)).alloc (.map #[] 0)).alloc (.map #[] 0)) (Below.heap_alloc _ _ _ (by simp))
      simpa [cntL] using h2
    · have h1 := IsSet.made ((w.alloc (.cells #[.pointer (some ⟨bt, 0, none⟩)] 135)).alloc (.map #[] 0)) 27
      simpa [cntL] using h1
  go_loopw [7] (fun k wr => ∃ i I : Nat, k = .int .i64 (I : Int) ∧ Hid (I = 2 * i) ∧ I ≤ l.length ∧ Hid (DiffR w bt S l i wr)) (fun k _ => l.length + 1 - (intOf k).toNat)
  case atStart => exact ⟨0, 0, rfl, rfl, by omega, st0⟩
  case round =>
    clear st0
    obtain ⟨i, I, rfl, HI, hI, HD⟩ := hrel
    have hBr : Below w0.heap.size w0 wr := hB.trans (HD.out.bel.mono hB.size)
    have hszr := HD.out.bel.size
    by_cases hIn : I < l.length
    · have hIn' : (I : Int) < (l.length : Int) := by omega
      obtain ⟨v, hvI⟩ : ∃ v, l[I]? = some v := ⟨l[I], by simp⟩
      obtain ⟨b0, off, rfl, c0, c1⟩ := (hv.below hBr) I v hvI
      have hb0l : b0 < w0.heap.size := by
        obtain ⟨b0', off', e', c0', -⟩ := hv I v hvI
        simp at e'
        obtain ⟨rfl, rfl⟩ := e'
        exact World.block_lt_of_cell? w0 _ c0'
      have hvv := hval v (List.mem_of_getElem? hvI)
      have HV : Hid (l[2 * i]? = some v) := by rw [← HI.out]; exact hvI
      have hib : i ≤ 1048576 := by have := HI.out; omega
      have hbl : wr.heap[bt]? = _ := (HD.out.bel.block bt hbt).trans hblk
      have hcel : ∀ (W : World), Below w.heap.size w W → W.cell? ⟨b0, off + I * 2, none⟩ = some (.int .u8 v.k) ∧ W.cell? ⟨b0, off + I * 2 + 1, none⟩ = some (.int .i64 v.n) := fun W h => by
        have h1 := hB.trans (h.mono hB.size)
        obtain ⟨b0', off', e', c0', c1'⟩ := (hv.below h1) I v hvI
        simp at e'
        obtain ⟨rfl, rfl⟩ := e'
        exact ⟨c0', c1'⟩
      have HC : Hid _ := hcel
      have HVI : Hid _ := hvI
      clear hcel hvI
      obtain ⟨t0, -⟩ := cell_row1 HD.out.box
      obtain ⟨⟨s0, s1, s2⟩, -⟩ := cell_row3 hbl
      have hbxl : w.heap.size < wr.heap.size := (Array.getElem?_eq_some_iff.1 HD.out.box).1
      have hbtl : bt < wr.heap.size := by omega
      have hA := below1 wr (.cells #[.int .u8 0, .string ⟨#[]⟩, .slice none 0 0, .int .i64 0, .int .i64 0] 96)
      have hAd : ∀ k, k < wr.heap.size → (wr.alloc (.cells #[.int .u8 0, .string ⟨#[]⟩, .slice none 0 0, .int .i64 0, .int .i64 0] 96)).heap[k]? = wr.heap[k]? := fun k hk => Below.heap_alloc _ _ _ hk
      obtain ⟨t0', -⟩ := cell_row1 ((hAd w.heap.size hbxl).trans HD.out.box)
      obtain ⟨⟨s0', s1', s2'⟩, -⟩ := cell_row3 ((hAd bt hbtl).trans hbl)
      obtain ⟨u0', u1'⟩ := HC.out (wr.alloc (.cells #[.int .u8 0, .string ⟨#[]⟩, .slice none 0 0, .int .i64 0, .int .i64 0] 96)) (HD.out.bel.trans (hA.mono hszr))
      have hnew := heap_alloc_new wr (.cells #[.int .u8 0, .string ⟨#[]⟩, .slice none 0 0, .int .i64 0, .int .i64 0] 96)
      obtain ⟨⟨z0, z1, z2, z3, z4⟩, y0, y1, y2, y3, y4⟩ := cell_row5 hnew
      have ne1 : w.heap.size ≠ wr.heap.size := by omega
      have ne2 : b0 ≠ wr.heap.size := by omega
      have ne3 : bt ≠ wr.heap.size := by omega
      cases hlead : leadO S v with
      | none =>
        have HL := fun (W : World) (h : Below w0.heap.size w0 W) => lead_none (c := c) (hs.below h) hl hlead
        unfold noObj at HL
        go_wp2
        go_region_held3 (fun W => W.cell? ⟨w.heap.size, 0, none⟩ = some (.pointer (some ⟨bt, 0, none⟩)) ∧ W.cell? ⟨bt, 0, none⟩ = some (.slice p S.length c) ∧ W.cell? ⟨b0, off + I * 2, none⟩ = some (.int .u8 v.k) ∧ W.cell? ⟨b0, off + I * 2 + 1, none⟩ = some (.int .i64 v.n)) (first | with_reducible exact ⟨t0, s0, c0, c1⟩ | with_reducible exact ⟨t0', s0', u0', u1'⟩ | with_reducible exact ⟨q0, q1, q2, q3⟩ | with_reducible exact ⟨(cell_set5 ne1).trans q0, (cell_set5 ne3).trans q1, (cell_set5 ne2).trans q2, (cell_set5 ne2).trans q3⟩ | go_keep)
          ((first
            | (go_at_call 236; (with_reducible refine (HL _ (below_drew hBr)).mono ?_); rintro e w3 ⟨hB3, rfl⟩; obtain ⟨q0, -⟩ := cell_row1 ((hB3.block w.heap.size hbxl).trans HD.out.box); obtain ⟨⟨q1, -, -⟩, -⟩ := cell_row3 ((hB3.block bt hbtl).trans hbl); have hBw : Below wr.heap.size wr w3 := (below_drew (Below.refl _ wr)).trans hB3; obtain ⟨q2, q3⟩ := HC.out w3 (HD.out.bel.trans (hBw.mono hszr)))
            | (go_at_call 236; (with_reducible refine (HL _ (below_drew (hBr.trans (hA.mono hBr.size)))).mono ?_); rintro e w3 ⟨hB3, rfl⟩; obtain ⟨q0, -⟩ := cell_row1 ((hB3.block w.heap.size (by simp; omega)).trans ((hAd w.heap.size hbxl).trans HD.out.box)); obtain ⟨⟨q1, -, -⟩, -⟩ := cell_row3 ((hB3.block bt (by simp; omega)).trans ((hAd bt hbtl).trans hbl)); have hn3 := (hB3.block wr.heap.size (by simp)).trans hnew; obtain ⟨⟨g0, g1, g2, g3, g4⟩, f0, f1, f2, f3, f4⟩ := cell_row5 hn3; have hBw : Below wr.heap.size wr w3 := (below_drew hA).trans (hB3.mono (by simp)); obtain ⟨q2, q3⟩ := HC.out w3 (HD.out.bel.trans (hBw.mono hszr)))))
        all_goals
          first
            | (have hob := set5_row (x0 := .int .u8 0) (x1 := .string ⟨#[]⟩) (x2 := .slice none 0 0) (x3 := .int .i64 0) (x4 := .int .i64 0) hn3; have hBF := below_set5 hBw (Nat.le_refl _) (.int .u8 0) (.string ⟨#[]⟩) (.slice none 0 0) (.int .i64 0) (.int .i64 0); generalize hWF : World.setCell _ ⟨wr.heap.size, 4, none⟩ _ = WF at *)
            | (have hob := heap_alloc_new w3 (.cells #[.int .u8 0, .string ⟨#[]⟩, .slice none 0 0, .int .i64 0, .int .i64 0] 96); have hBF : Below wr.heap.size wr (w3.alloc (.cells #[.int .u8 0, .string ⟨#[]⟩, .slice none 0 0, .int .i64 0, .int .i64 0] 96)) := hBw.alloc hBw.size _; generalize hWF : World.alloc w3 _ = WF at *)
          clear hWF HL
          have hBFw : Below w.heap.size w WF := HD.out.bel.trans (hBF.mono hszr)
          obtain ⟨⟨d0, d1, d2, d3, d4⟩, -⟩ := cell_row5 hob
          obtain ⟨x0, x1⟩ := HC.out WF hBFw
          have hT := HD.out.txt.kept (hBF.block _ HD.out.txt.lt)
          have hO := HD.out.oth.kept (hBF.block _ HD.out.oth.lt)
          have hbxF := (hBF.block _ hbxl).trans HD.out.box
          clear hob hBF hBw hB3 hnew z0 z1 z2 z3 z4 y0 y1 y2 y3 y4 t0 s0 s1 s2 t0' s0' s1' s2' u0' u1' q0 q1 q2 q3 c0 c1 hA hAd
          have hcls : clsT S v = none := by unfold clsT; rw [hlead]
          have hkey := keyOf_val hvv.2
          obtain ⟨cc, st, v0, hcc, hlk, w4, hent, hg4, hlk2, hstore⟩ := (hO.kept (w' := WF.drew) rfl).entry (mt := 332) lawVal Tryz.underlying332 (by omega) hkey zeroN
          have r1 := hlk WF.drew rfl
          have r2 := hlk2 w4 rfl
          obtain ⟨w5, hst5, hset5, hg5⟩ := hstore w4 rfl
          simp only [goInt] at hst5 hent
          have hB4 : Below w.heap.size w w4 := grown_below hg4 (below_drew hBFw) (by omega)
          have hB5 : Below w.heap.size w w5 := grown_below hg5 hB4 (by omega)
          obtain ⟨m0, m1⟩ := HC.out w4 hB4
          obtain ⟨n0, n1⟩ := HC.out w5 hB5
          have hwc : IntKind.i64.wrap ((cc : Int) + 1) = (cc : Int) + 1 := by rw [IntKind.wrap_i64]; omega
          have hT5 : IsSet w5 9 (w.heap.size + 1) i (cntL S ((evens l).take i)).1 := by
            refine hT.kept ?_
            have hTl := hT.lt
            rw [hg5.block (w.heap.size + 1) (Nat.lt_of_lt_of_le hTl hg4.size) (by simp), hg4.block (w.heap.size + 1) hTl (by simp)]; rfl
          have hbx5 : w5.heap[w.heap.size]? = some (.cells #[.pointer (some ⟨bt, 0, none⟩)] 135 (0, 0)) := by
            have hTl := (Array.getElem?_eq_some_iff.1 hbxF).1
            rw [hg5.block (w.heap.size) (Nat.lt_of_lt_of_le hTl hg4.size) (by simp; omega), hg4.block (w.heap.size) hTl (by simp; omega)]; exact hbxF
          have hfin : DiffR w bt S l (i + 1) w5 := by
            refine ⟨hbx5, ?_, ?_, hB5⟩
            · rw [cnt_take HV.out]; unfold cntStep; rw [hcls]; exact hT5.more (by omega)
            · rw [cnt_take HV.out]; unfold cntStep; rw [hcls]; exact hset5
          have HF : Hid _ := hfin
          clear hfin hT5 hbx5 hset5 hg5 hg4 hlk hlk2 hstore hT hO hbxF hcls hB4 hB5 hBFw
          go_wp2
          go_region_held3 (fun W => W.cell? ⟨b0, off + I * 2, none⟩ = some (.int .u8 v.k) ∧ W.cell? ⟨b0, off + I * 2 + 1, none⟩ = some (.int .i64 v.n)) (first | with_reducible exact ⟨x0, x1⟩ | with_reducible exact ⟨m0, m1⟩ | with_reducible exact ⟨n0, n1⟩ | go_keep) (fail)
          all_goals
            go_wp2
            go_roundw
            case rel => exact ⟨i + 1, I + 2, by simp, hid (by have := HI.out; omega), by have := HI.out; omega, HF⟩
            case measure => simp [intOf]; omega
      | some o =>
        have HL := fun (W : World) (h : Below w0.heap.size w0 W) => lead_some (c := c) (hs.below h) hl hlead
        unfold objV at HL
        go_wp2
        go_region_held3 (fun W => W.cell? ⟨w.heap.size, 0, none⟩ = some (.pointer (some ⟨bt, 0, none⟩)) ∧ W.cell? ⟨bt, 0, none⟩ = some (.slice p S.length c) ∧ W.cell? ⟨b0, off + I * 2, none⟩ = some (.int .u8 v.k) ∧ W.cell? ⟨b0, off + I * 2 + 1, none⟩ = some (.int .i64 v.n)) (first | with_reducible exact ⟨t0, s0, c0, c1⟩ | with_reducible exact ⟨t0', s0', u0', u1'⟩ | with_reducible exact ⟨q0, q1, q2, q3⟩ | with_reducible exact ⟨(cell_set5 ne1).trans q0, (cell_set5 ne3).trans q1, (cell_set5 ne2).trans q2, (cell_set5 ne2).trans q3⟩ | go_keep)
          ((first
            | (go_at_call 236; (with_reducible refine (HL _ (below_drew hBr)).mono ?_); rintro e w3 ⟨hB3, qo, co, rfl, hvo⟩; obtain ⟨q0, -⟩ := cell_row1 ((hB3.block w.heap.size hbxl).trans HD.out.box); obtain ⟨⟨q1, -, -⟩, -⟩ := cell_row3 ((hB3.block bt hbtl).trans hbl); have hBw : Below wr.heap.size wr w3 := (below_drew (Below.refl _ wr)).trans hB3; obtain ⟨q2, q3⟩ := HC.out w3 (HD.out.bel.trans (hBw.mono hszr)))
            | (go_at_call 236; (with_reducible refine (HL _ (below_drew (hBr.trans (hA.mono hBr.size)))).mono ?_); rintro e w3 ⟨hB3, qo, co, rfl, hvo⟩; obtain ⟨q0, -⟩ := cell_row1 ((hB3.block w.heap.size (by simp; omega)).trans ((hAd w.heap.size hbxl).trans HD.out.box)); obtain ⟨⟨q1, -, -⟩, -⟩ := cell_row3 ((hB3.block bt (by simp; omega)).trans ((hAd bt hbtl).trans hbl)); have hn3 := (hB3.block wr.heap.size (by simp)).trans hnew; obtain ⟨⟨g0, g1, g2, g3, g4⟩, f0, f1, f2, f3, f4⟩ := cell_row5 hn3; have hBw : Below wr.heap.size wr w3 := (below_drew hA).trans (hB3.mono (by simp)); obtain ⟨q2, q3⟩ := HC.out w3 (HD.out.bel.trans (hBw.mono hszr)))))
        all_goals
          first
            | (have hob := set5_row (x0 := .int .u8 o.k) (x1 := .string o.s) (x2 := .slice qo o.l.length co) (x3 := .int .i64 o.room) (x4 := .int .i64 o.fn) hn3; have hBF := below_set5 hBw (Nat.le_refl _) (.int .u8 o.k) (.string o.s) (.slice qo o.l.length co) (.int .i64 o.room) (.int .i64 o.fn); generalize hWF : World.setCell _ ⟨wr.heap.size, 4, none⟩ _ = WF at *)
            | (have hob := heap_alloc_new w3 (.cells #[.int .u8 o.k, .string o.s, .slice qo o.l.length co, .int .i64 o.room, .int .i64 o.fn] 96); have hBF : Below wr.heap.size wr (w3.alloc (.cells #[.int .u8 o.k, .string o.s, .slice qo o.l.length co, .int .i64 o.room, .int .i64 o.fn] 96)) := hBw.alloc hBw.size _; generalize hWF : World.alloc w3 _ = WF at *)
          clear hWF HL
          have hBFw : Below w.heap.size w WF := HD.out.bel.trans (hBF.mono hszr)
          obtain ⟨⟨d0, d1, d2, d3, d4⟩, -⟩ := cell_row5 hob
          obtain ⟨x0, x1⟩ := HC.out WF hBFw
          have hT := HD.out.txt.kept (hBF.block _ HD.out.txt.lt)
          have hO := HD.out.oth.kept (hBF.block _ HD.out.oth.lt)
          have hbxF := (hBF.block _ hbxl).trans HD.out.box
          clear hob hBF hBw hB3 hnew z0 z1 z2 z3 z4 y0 y1 y2 y3 y4 t0 s0 s1 s2 t0' s0' s1' s2' u0' u1' q0 q1 q2 q3 c0 c1 hA hAd
          by_cases h3 : o.k = 3
          · have hcls : clsT S v = some o.s := by unfold clsT; rw [hlead]; simp [h3]
            have hoS : o ∈ S := by obtain ⟨-, -, -, j, -, -, h⟩ := leadO_some hlead; exact List.mem_of_getElem? h
            have hkey := keyOf_str (s := o.s) (by have := hstr o hoS; unfold maxLen; omega)
            obtain ⟨cc, hcc, hlk, hupd⟩ := hT.count (mt := 331) lawStr Tryz.underlying331 (by omega) hkey
            have r1 := hlk WF rfl
            obtain ⟨w5, hst5, hset5, hg5⟩ := hupd WF rfl
            have hB5 : Below w.heap.size w w5 := grown_below hg5 hBFw (by omega)
            have hwc : IntKind.i64.wrap ((cc : Int) + 1) = (cc : Int) + 1 := by rw [IntKind.wrap_i64]; omega
            have hfin : DiffR w bt S l (i + 1) w5 := by
              refine ⟨(hg5.block _ (Array.getElem?_eq_some_iff.1 hbxF).1 (by simp)).trans hbxF, ?_, ?_, hB5⟩
              · rw [cnt_take HV.out]; unfold cntStep; rw [hcls]; exact hset5
              · rw [cnt_take HV.out]; unfold cntStep; rw [hcls]; exact (hO.kept (hg5.block _ hO.lt (by simp))).more (by omega)
            have HF : Hid _ := hfin
            clear hfin hset5 hg5 hlk hupd hT hO hbxF hcls hB5 hBFw hoS
            rw [h3] at d0
            go_wp2
            go_roundw
            case rel => exact ⟨i + 1, I + 2, by simp, hid (by have := HI.out; omega), by have := HI.out; omega, HF⟩
            case measure => simp [intOf]; omega
          · have hcls : clsT S v = none := by unfold clsT; rw [hlead]; simp [h3]
            have g3 : ((o.k : Int) == 3) = false := by have : ¬ ((o.k : Int) = 3) := by omega
                                                       simpa using this
            have hkey := keyOf_val hvv.2
            obtain ⟨cc, st, v0, hcc, hlk, w4, hent, hg4, hlk2, hstore⟩ := (hO.kept (w' := WF.drew) rfl).entry (mt := 332) lawVal Tryz.underlying332 (by omega) hkey zeroN
            have r1 := hlk WF.drew rfl
            have r2 := hlk2 w4 rfl
            obtain ⟨w5, hst5, hset5, hg5⟩ := hstore w4 rfl
            simp only [goInt] at hst5 hent
            have hB4 : Below w.heap.size w w4 := grown_below hg4 (below_drew hBFw) (by omega)
            have hB5 : Below w.heap.size w w5 := grown_below hg5 hB4 (by omega)
            obtain ⟨m0, m1⟩ := HC.out w4 hB4
            obtain ⟨n0, n1⟩ := HC.out w5 hB5
            have hwc : IntKind.i64.wrap ((cc : Int) + 1) = (cc : Int) + 1 := by rw [IntKind.wrap_i64]; omega
            have hT5 : IsSet w5 9 (w.heap.size + 1) i (cntL S ((evens l).take i)).1 := by
              refine hT.kept ?_
              have hTl := hT.lt
              rw [hg5.block (w.heap.size + 1) (Nat.lt_of_lt_of_le hTl hg4.size) (by simp), hg4.block (w.heap.size + 1) hTl (by simp)]; rfl
            have hbx5 : w5.heap[w.heap.size]? = some (.cells #[.pointer (some ⟨bt, 0, none⟩)] 135 (0, 0)) := by
              have hTl := (Array.getElem?_eq_some_iff.1 hbxF).1
              rw [hg5.block (w.heap.size) (Nat.lt_of_lt_of_le hTl hg4.size) (by simp; omega), hg4.block (w.heap.size) hTl (by simp; omega)]; exact hbxF
            have hfin : DiffR w bt S l (i + 1) w5 := by
              refine ⟨hbx5, ?_, ?_, hB5⟩
              · rw [cnt_take HV.out]; unfold cntStep; rw [hcls]; exact hT5.more (by omega)
              · rw [cnt_take HV.out]; unfold cntStep; rw [hcls]; exact hset5
            have HF : Hid _ := hfin
            clear hfin hT5 hbx5 hset5 hg5 hg4 hlk hlk2 hstore hT hO hbxF hcls hB4 hB5 hBFw
            go_wp2
            go_region_held3 (fun W => W.cell? ⟨b0, off + I * 2, none⟩ = some (.int .u8 v.k) ∧ W.cell? ⟨b0, off + I * 2 + 1, none⟩ = some (.int .i64 v.n)) (first | with_reducible exact ⟨x0, x1⟩ | with_reducible exact ⟨m0, m1⟩ | with_reducible exact ⟨n0, n1⟩ | go_keep) (fail)
            all_goals
              go_wp2
              go_roundw
              case rel => exact ⟨i + 1, I + 2, by simp, hid (by have := HI.out; omega), by have := HI.out; omega, HF⟩
              case measure => simp [intOf]; omega
    · have hIn' : ¬ ((I : Int) < (l.length : Int)) := by omega
      have hie : (evens l).take i = evens l := List.take_of_length_le (by have := HI.out; have := evens_len l; omega)
      have hd := HD.out
      have ht := hd.txt
      have ho := hd.oth
      rw [hie] at ht ho
      have l1 := ht.len (mt := 331) Tryz.underlying331 3
      have l2 := ho.len (mt := 332) Tryz.underlying332 3
      have hck := count_keys hval
      have hel := evens_len l
      have hle := (cnt_spec S (evens l)).2.2.1
      have HB : Hid _ := hd.bel
      generalize hn1 : (cntL S (evens l)).1.length = n1 at *
      generalize hn2 : (cntL S (evens l)).2.length = n2 at *
      have HE : Hid _ := hel
      have e2 : (l.length : Int) / 2 = ((evens l).length : Nat) := by omega
      generalize hn3 : (evens l).length = n3 at *
      have hb1 : n1 ≤ 1048576 := by omega
      have hb2 : n2 ≤ 1048576 := by omega
      by_cases hk : keysP S l
      · have hbt' := b_true hb hk
        have hs3 : (n1 : Int) + (n2 : Int) = n3 := by have := hck.2 hk; omega
        have hfin : ((n1 : Int) + (n2 : Int) == (l.length : Int) / 2) = true := by rw [e2, hs3]; simp
        subst hbt'
        clear hb hck hel hle hn1 hn2 hn3 HE e2 hs3 hk ht ho hd hie HD
        go_wp2
        go_ret
        refine ⟨?_, HB.out⟩
        first | rfl | (simp_all; done)
      · have hbt' := b_false hb hk
        have hs3 : ¬ ((n1 : Int) + (n2 : Int) = n3) := fun h => hk (hck.1 (by omega))
        have hfin : ((n1 : Int) + (n2 : Int) == (l.length : Int) / 2) = false := by rw [e2]; simpa using hs3
        subst hbt'
        clear hb hck hel hle hn1 hn2 hn3 HE e2 hs3 hk ht ho hd hie HD
        go_wp2
        go_ret
        refine ⟨?_, HB.out⟩
        first | rfl | (simp_all; done)

end Go.Proofs.YtgokofomoachaaaGreatDoor

namespace Go.Proofs.YtgokofomoachaaaGreatDoor
set_option linter.unusedVariables false
set_option linter.unusedSimpArgs false
open Go.RowKit

variable {w : World}

theorem mayBe_in {w0 : World} {bt bM K c : Nat} {vt : Value} {t : Tr} {p : Option Addr} {S : List Om} (hs : IsSt w0 p S) (hl : S.length ≤ maxLen) (hB : Below w0.heap.size w0 w) (ht : IsTo w0.heap.size bt bM (.slice p S.length c) vt K t w) (hK : K + 1 ≤ 1099511627776) (v : Vl) (b : Bool) (hb : b = true ↔ mayP S v) :
    Calls Tryz.prog 145 #[.agg #[.pointer (some ⟨bt, 0, none⟩)], .agg #[.int .u8 v.k, .int .i64 v.n]] w fun e w' => e = .returned (.bool b) ∧ ∃ vt', IsTo w0.heap.size bt bM (.slice p S.length c) vt' (K + 1) (meetL S t [v]) w' ∧ TStep bt bM vt w vt' w' := by
  by_cases hk : 3 ≤ v.k
  · exact mayBe_high hs hl hB ht hK v hk b hb
  · obtain ⟨k, n⟩ := v
    dsimp only at hk
    refine (mayBe_low (bt := bt) S k n (by omega) b hb).mono ?_
    rintro e w' ⟨rfl, hB'⟩
    refine ⟨rfl, vt, ?_, TStep.of_below hB'⟩
    have e2 : meetL S t [⟨k, n⟩] = t := by unfold meetL; simp [meet1, lead_low (S := S) (n := n) (show k < 3 by omega)]
    rw [e2]
    exact (ht.below hB').more (by omega)

/-- May the values of an object be in it, and have their objects their form? -/
def holdP (S : List Om) (o : Om) : Prop := (∀ v ∈ o.l, mayP S v ∧ (v.k = 7 ↔ o.k = 6)) ∧ (o.k = 5 → keysP S o.l)

set_option maxRecDepth 20000 in
set_option maxHeartbeats 4000000 in
theorem holds_in {w0 : World} {bt bM K c : Nat} {vt : Value} {t : Tr} {p qo : Option Addr} {S : List Om} (hs : IsSt w0 p S) (hl : S.length ≤ maxLen) (hstr : ∀ o ∈ S, o.s.size ≤ 1048576) (hB : Below w0.heap.size w0 w) (ht : IsTo w0.heap.size bt bM (.slice p S.length c) vt K t w) (o : Om) (co : Nat) (hv : Vals w0 qo o.l) (hK : K + o.l.length ≤ 1099511627776) (hll : o.l.length ≤ 1048576) (hfit : ∀ v ∈ o.l, v.fits) (hform : formP o) (b : Bool) (hb : b = true ↔ holdP S o) :
    Calls Tryz.prog 147 #[.agg #[.pointer (some ⟨bt, 0, none⟩)], objV o qo co] w fun e w' => e = .returned (.bool b) ∧ Below w0.heap.size w w' ∧ (b = true → ∃ vt', IsTo w0.heap.size bt bM (.slice p S.length c) vt' (K + o.l.length) (meetL S t o.l) w') := by
  unfold objV
  have hbt := ht.lt
  have hbM := ht.cnt.lt
  have hvl : ∀ k, vt.ownBlock = some k → w.heap.size ≤ k → False := fun k e h => by have := (ht.todo.lt k e).2; omega
  have e0 := (Below.heap_alloc (w.alloc (.cells #[.pointer (some ⟨bt, 0, none⟩)] 135)) (.cells #[.int .u8 o.k, .string o.s, .slice qo o.l.length co, .int .i64 o.room, .int .i64 o.fn] 96) w.heap.size (by simp)).trans (heap_alloc_new w (.cells #[.pointer (some ⟨bt, 0, none⟩)] 135))
  have e1 := heap_two w (.cells #[.pointer (some ⟨bt, 0, none⟩)] 135) (.cells #[.int .u8 o.k, .string o.s, .slice qo o.l.length co, .int .i64 o.room, .int .i64 o.fn] 96)
  have hB2 := below2' w (.cells #[.pointer (some ⟨bt, 0, none⟩)] 135) (.cells #[.int .u8 o.k, .string o.s, .slice qo o.l.length co, .int .i64 o.room, .int .i64 o.fn] 96)
  have hsz : ((w.alloc (.cells #[.pointer (some ⟨bt, 0, none⟩)] 135)).alloc (.cells #[.int .u8 o.k, .string o.s, .slice qo o.l.length co, .int .i64 o.room, .int .i64 o.fn] 96)).heap.size = w.heap.size + 2 := by simp
  have ht2 := ht.below hB2
  have hBw := hB.trans (hB2.mono hB.size)
  have hw0 := hB.size
  go_enter Tryz.func147, Tryz.ntmps147
  go_wp2
  generalize hWA : (w.alloc (.cells #[.pointer (some ⟨bt, 0, none⟩)] 135)).alloc (.cells #[.int .u8 o.k, .string o.s, .slice qo o.l.length co, .int .i64 o.room, .int .i64 o.fn] 96) = WA at *
  clear hWA
  go_loopw [10] (fun k wr => ∃ (pre rest : List Vl) (vt1 : Value), k = .int .i64 pre.length ∧ Hid (o.l = pre ++ rest) ∧ Hid (IsTo w0.heap.size bt bM (.slice p S.length c) vt1 (K + pre.length) (meetL S t pre) wr) ∧ Hid (TStep bt bM vt WA vt1 wr) ∧ Hid (∀ v ∈ pre, mayP S v ∧ (v.k = 7 ↔ o.k = 6))) (fun k _ => o.l.length - (intOf k).toNat)
  case atStart => exact ⟨[], o.l, vt, rfl, rfl, ht2, TStep.refl _ _ _ _, fun v hv => by cases hv⟩
  case round =>
    obtain ⟨pre, rest, vt1, rfl, HR, HT, HS, HM⟩ := hrel
    have k0 := (HS.out.block w.heap.size (by omega) (by omega) (by omega) (by intro e; exact hvl _ e.symm (by omega))).trans e0
    have k1 := (HS.out.block (w.heap.size + 1) (by omega) (by omega) (by omega) (by intro e; exact hvl _ e.symm (by omega))).trans e1
    have hBr : Below w0.heap.size w0 wr := hBw.trans (ht2.below0 HS.out)
    have hszr : w.heap.size + 2 ≤ wr.heap.size := by have := HS.out.size; omega
    have hBwr : Below w0.heap.size w wr := (hB2.mono hw0).trans (ht2.below0 HS.out)
    obtain ⟨t0, -⟩ := cell_row1 k0
    obtain ⟨⟨o0, o1, o2, o3, o4⟩, -⟩ := cell_row5 k1
    cases rest with
    | nil =>
      have hR' : o.l = pre := by simpa using HR.out
      have hq : ¬ ((pre.length : Int) < (o.l.length : Int)) := by rw [hR']; omega
      have hIs : IsTo w0.heap.size bt bM (.slice p S.length c) vt1 (K + o.l.length) (meetL S t o.l) wr := by rw [hR']; exact HT.out
      have hall : ∀ v ∈ o.l, mayP S v ∧ (v.k = 7 ↔ o.k = 6) := by rw [hR']; exact HM.out
      clear hR'
      by_cases h5 : o.k = 5
      · obtain ⟨bk, hbk⟩ := b_of (keysP S o.l)
        have hbk' : b = bk := by
          cases bk with
          | true => exact b_true hb ⟨hall, fun _ => hbk.1 rfl⟩
          | false => exact b_false hb (fun h => by have := hbk.2 (h.2 h5); cases this)
        subst hbk'
        have HD := differ_in (cq := co) hs hl hstr hv hBr hIs.blk hll (by have := (hform.2.2.1 h5).1; omega) (fun v hv => ⟨(hall v hv).1.1, hfit v hv⟩) b hbk
        have HF : Hid _ := And.intro hIs hBwr
        rw [h5] at o0
        clear hIs hall hb hbk h5
        go_wp2_with (first
          | (go_at_call 238; refine HD.mono ?_; clear HD; rintro e w2 ⟨rfl, hB3⟩))
        go_ret
        exact ⟨rfl, HF.out.2.trans (hB3.mono hBr.size), fun _ => ⟨vt1, HF.out.1.below hB3⟩⟩
      · have g5 : ((o.k : Int) == 5) = false := by have : ¬ ((o.k : Int) = 5) := by omega
                                                   simpa using this
        have hbt' := b_true hb ⟨hall, fun h => absurd h h5⟩
        subst hbt'
        have HF : Hid _ := And.intro hIs hBwr
        clear hIs hall hb
        go_wp2
        go_ret
        exact ⟨rfl, HF.out.2, vt1, HF.out.1⟩
    | cons v rest =>
      have hR := HR.out
      have hvm : v ∈ o.l := by rw [hR]; simp
      have hlR : pre.length < o.l.length := by rw [hR]; simp
      have hlR' : (pre.length : Int) < (o.l.length : Int) := by omega
      obtain ⟨b0, off, rfl, c0, c1⟩ := (hv.below hBr) pre.length v (by rw [hR]; simp)
      have e2 : (((pre ++ [v]).length : Nat) : Int) = pre.length + 1 := by simp
      clear hR
      have hA := below1 wr (.cells #[.int .u8 v.k, .int .i64 v.n] 27)
      have hA1 := heap_alloc_new wr (.cells #[.int .u8 v.k, .int .i64 v.n] 27)
      have hkA := (Below.heap_alloc wr (.cells #[.int .u8 v.k, .int .i64 v.n] 27) _ (show w.heap.size < wr.heap.size by omega)).trans k0
      have hkB := (Below.heap_alloc wr (.cells #[.int .u8 v.k, .int .i64 v.n] 27) _ (show w.heap.size + 1 < wr.heap.size by omega)).trans k1
      obtain ⟨t0', -⟩ := cell_row1 hkA
      obtain ⟨⟨o0', o1', o2', o3', o4'⟩, -⟩ := cell_row5 hkB
      have fls : ∀ (x m : Nat), x ≠ m → ((x : Int) == (m : Int)) = false := fun x m h => by have : ¬ ((x : Int) = (m : Int)) := by omega
                                                                                            simpa using this
      by_cases h7 : v.k = 7
      · have q1 : ((v.k : Int) == 7) = true := by simp [h7]
        have H7 : Hid _ := h7
        clear h7
        by_cases h6 : o.k = 6
        · have q2 : ((o.k : Int) == 6) = true := by simp [h6]
          have H6 : Hid _ := h6
          clear fls h6
          obtain ⟨bm, hbm⟩ := b_of (mayP S v)
          have HY := mayBe_in (c := c) hs hl (hBr.trans (hA.mono hBr.size)) (HT.out.below hA) (by omega) v bm hbm
          cases bm with
          | false =>
            have hbf := b_false hb (fun h => by have := hbm.2 (h.1 v hvm).1; cases this)
            subst hbf
            clear hb hbm
            go_wp2_with (first
              | (go_at_call 145; refine HY.mono ?_; clear HY; rintro e w2 ⟨rfl, vt2, hto2, hS2⟩))
            go_ret
            exact ⟨rfl, hBwr.trans ((hA.mono hBr.size).trans ((HT.out.below hA).below0 hS2)), fun h => by cases h⟩
          | true =>
            have hmy := hbm.1 rfl
            clear hbm
            go_wp2_with (first
              | (go_at_call 145; refine HY.mono ?_; clear HY; rintro e w2 ⟨rfl, vt2, hto2, hS2⟩))
            go_roundw
            case rel =>
              refine ⟨pre ++ [v], rest, vt2, by rw [e2], hid (by have := HR.out; simpa using this), ?_, hid (HS.out.trans ((TStep.of_below hA).trans hS2)), ?_⟩
              · have e3 : meetL S t (pre ++ [v]) = meetL S (meetL S t pre) [v] := by unfold meetL; rw [List.foldl_append]
                refine hid ?_
                rw [e3, List.length_append, ← Nat.add_assoc]
                exact hto2
              · refine hid ?_
                intro u hu
                rcases List.mem_append.1 hu with hu | hu
                · exact HM.out u hu
                · simp at hu; subst hu; exact ⟨hmy, ⟨fun _ => H6.out, fun _ => H7.out⟩⟩
            case measure => simp [intOf]; omega
        · have q2 : ((o.k : Int) == 6) = false := fls _ 6 h6
          clear fls
          have hbf := b_false hb (fun h => h6 ((h.1 v hvm).2.1 H7.out))
          subst hbf
          clear hb
          go_wp2
          go_ret
          exact ⟨rfl, hBwr.trans (hA.mono hBr.size), fun h => by cases h⟩
      · have q1 : ((v.k : Int) == 7) = false := fls _ 7 h7
        by_cases h6 : o.k = 6
        · have q2 : ((o.k : Int) == 6) = true := by simp [h6]
          clear fls
          have hbf := b_false hb (fun h => h7 ((h.1 v hvm).2.2 h6))
          clear h6
          subst hbf
          clear hb
          go_wp2
          go_ret
          exact ⟨rfl, hBwr.trans (hA.mono hBr.size), fun h => by cases h⟩
        · have q2 : ((o.k : Int) == 6) = false := fls _ 6 h6
          clear fls
          obtain ⟨bm, hbm⟩ := b_of (mayP S v)
          have HY := mayBe_in (c := c) hs hl (hBr.trans (hA.mono hBr.size)) (HT.out.below hA) (by omega) v bm hbm
          cases bm with
          | false =>
            have hbf := b_false hb (fun h => by have := hbm.2 (h.1 v hvm).1; cases this)
            subst hbf
            clear hb hbm
            go_wp2_with (first
              | (go_at_call 145; refine HY.mono ?_; clear HY; rintro e w2 ⟨rfl, vt2, hto2, hS2⟩))
            go_ret
            exact ⟨rfl, hBwr.trans ((hA.mono hBr.size).trans ((HT.out.below hA).below0 hS2)), fun h => by cases h⟩
          | true =>
            have hmy := hbm.1 rfl
            clear hbm
            go_wp2_with (first
              | (go_at_call 145; refine HY.mono ?_; clear HY; rintro e w2 ⟨rfl, vt2, hto2, hS2⟩))
            go_roundw
            case rel =>
              refine ⟨pre ++ [v], rest, vt2, by rw [e2], hid (by have := HR.out; simpa using this), ?_, hid (HS.out.trans ((TStep.of_below hA).trans hS2)), ?_⟩
              · have e3 : meetL S t (pre ++ [v]) = meetL S (meetL S t pre) [v] := by unfold meetL; rw [List.foldl_append]
                refine hid ?_
                rw [e3, List.length_append, ← Nat.add_assoc]
                exact hto2
              · refine hid ?_
                intro u hu
                rcases List.mem_append.1 hu with hu | hu
                · exact HM.out u hu
                · simp at hu; subst hu; exact ⟨hmy, ⟨fun a => absurd a h7, fun a => absurd a h6⟩⟩
            case measure => simp [intOf]; omega

end Go.Proofs.YtgokofomoachaaaGreatDoor
