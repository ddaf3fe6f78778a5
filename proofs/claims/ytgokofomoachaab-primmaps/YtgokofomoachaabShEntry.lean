/- A map whose keys are structs: the entry that is made first, and filled behind. Sets: a map by its keys alone. -/
import Derived.Test.YtgokofomoachaabShTour
import Derived.WideKeyEntry
import Derived.DeepKeys4
import Derived.Maps.OwnOps
import Derived.Maps.OwnSet
import Derived.Maps.Views
namespace Go.Proofs.Ytgokofomoachaab
set_option linter.unusedVariables false
set_option linter.unusedSimpArgs false
open Go.RowKit Go.Maps Go.WideElems Go.MapKept
open Go.WideMaps (KeyLaw)
open Go.ChangeMaps (setBlock heap_setBlock_same heap_setBlock_other)

variable {w : World}

theorem owns_same {H : Type} {P : Program} {k : TypeId} {R : Value → Option (DataW H × List MemPlace)} {w w' : World} {b n : Nat} {D : DataW H} (h : w.ownsMap P k R b n D) (hk : w'.heap[b]? = w.heap[b]?) : w'.ownsMap P k R b n D := by
  obtain ⟨es, cl, h1, h2⟩ := h
  exact ⟨es, cl, hk.trans h1, h2⟩

theorem grown_set {w : World} {b : Nat} {es es' : Array MapEntry} {cl cl' : Nat} (hb : w.heap[b]? = some (.map es cl)) : w.grownBy (setBlock w b (.map es' cl')) (some b) :=
  ⟨rfl, rfl, rfl, by simp [setBlock], fun i _ hi => heap_setBlock_other hb _ (fun e => hi (by rw [e]))⟩

theorem entry_look {H : Type} {P : Program} {k e t : TypeId} {R : Value → Option (DataW H × List MemPlace)} {w : World} {b n : Nat} {D : DataW H} (K : KeyLaw P k) (ht : P.underlying t = some (.map k e)) {z : Value} (hz : ∀ u : World, (zeroValue e).run P u = .ok z u) {zd : DataW H} {zp : List MemPlace} (hzd : R z = some (zd, zp))
    (h : w.ownsMap P k R b n D) (hn : n < maxLen) {key : Value} {kl : Lit} (hkey : keyOf P k key = some kl) :
    ∃ v0 st w1, (Instr.mapEntry t (.map (some b)) key).run P w = .ok (.tuple #[v0, goInt st]) w1 ∧ (∃ D1 n1, w1.ownsMap P k R b n1 D1 ∧ D1.atKey kl zd = D.atKey kl zd) ∧ w.grownBy w1 (some b) ∧
      ∀ (w2 : World) (val : Value) (d : DataW H) (ps : List MemPlace), w2.heap[b]? = w1.heap[b]? → R val = some (d, ps) → ∃ w3, (Instr.entryStore t (.map (some b)) (goInt st) val).run P w2 = .ok () w3 ∧ w3.ownsMap P k R b (n + 1) (D.put kl d) ∧ w2.grownBy w3 (some b) := by
  obtain ⟨es, clock, hb, F, hs, hD⟩ := id h
  obtain ⟨v0, st, es1, clock1, hrun, hv0, hst⟩ := entry_then_store K ht hz hb F hkey
  have hb1 := heap_setBlock_same hb (.map es1 clock1)
  refine ⟨v0, st, _, hrun, ?_, grown_set hb, ?_⟩
  · rcases K.find w hkey es.toList F.keys with ⟨h1, h2⟩ | ⟨j, e0, h1, h2, h3⟩
    · obtain ⟨w', hu, hown, -⟩ := h.update (Keyed.of_law K) ht hn hkey hzd
      have e1 : (Instr.mapUpdate t (.map (some b)) key z).run P w = .ok () (setBlock w b (.map (es.push ⟨key, z, clock⟩) (clock + 1))) := by
        simp [Instr.mapUpdate, run_underlying ht, MapKept.run_getObj_map hb, K.check w false hkey, h1, MapKept.run_setObj_map _ hb, Result.andThen, setBlock]
      have e2 : (Instr.mapEntry t (.map (some b)) key).run P w = .ok (.tuple #[z, goInt clock]) (setBlock w b (.map (es.push ⟨key, z, clock⟩) (clock + 1))) := by
        simp [Instr.mapEntry, run_underlying ht, MapKept.run_getObj_map hb, K.check w false hkey, h1, hz, MapKept.run_setObj_map _ hb, Result.andThen, setBlock]
      rw [e1] at hu
      rw [hrun] at e2
      injection hu with _ hu
      injection e2 with _ e2
      rw [e2, hu]
      refine ⟨_, _, hown, ?_⟩
      rw [atKey_put_same h.isMap ((Keyed.of_law K).key hkey)]
      rcases Maps.fit_look false (Keyed.of_law K) ht (hz w) hb F hkey with ⟨_, _, hat⟩ | ⟨e0, y, hm, hk, _⟩
      · rw [hD, hat]
      · exact (h2 e0 hm hk).elim
    · have hj : es[j]? = some e0 := by simpa using h2
      have hsame : es.modify j (fun e => { e with key := key }) = es := by
        apply Array.ext'
        rw [Array.toList_modify, Go.ChangeMaps.modify_eq_set _ _ _ _ h2]
        have : ({ e0 with key := key } : MapEntry) = e0 := by rw [← h3]
        rw [this]
        exact set_self _ _ _ h2
      have e2 : (Instr.mapEntry t (.map (some b)) key).run P w = .ok (.tuple #[e0.val, goInt e0.born]) (setBlock w b (.map es clock)) := by
        simp [Instr.mapEntry, run_underlying ht, MapKept.run_getObj_map hb, K.check w false hkey, h1, hj, h3, K.stays w hkey, hsame, MapKept.run_setObj_map _ hb, Result.andThen, setBlock]
      rw [hrun] at e2
      injection e2 with _ e2
      rw [e2]
      exact ⟨D, n, owns_same h ((heap_setBlock_same hb _).trans hb.symm), rfl⟩
  · intro w2 val d ps hw2 hval
    obtain ⟨es', clock', hr2, hup⟩ := hst w2 val (hw2.trans hb1)
    obtain ⟨w', hu, hown, -⟩ := h.update (Keyed.of_law K) ht hn hkey hval
    rw [hup] at hu
    injection hu with _ hu
    refine ⟨_, hr2, ?_, grown_set (hw2.trans hb1)⟩
    refine owns_same hown ?_
    rw [← hu]
    exact (heap_setBlock_same (hw2.trans hb1) _).trans (heap_setBlock_same hb _).symm

/-- A map by its keys: a set. -/
def IsSet (w : World) (kt b n : Nat) (L : List Lit) : Prop :=
  ∃ D : DataW Unit, w.ownsMap Try.prog kt (plainElem Try.prog 3) b n D ∧ L.Nodup ∧ (∀ k, has D k = true ↔ k ∈ L) ∧ size D = L.length ∧ ∀ k, ∃ c : Nat, D.atKey k (.lit (.int .i64 0)) = .lit (.int .i64 c) ∧ c ≤ n

theorem IsSet.kept {kt b n : Nat} {L : List Lit} (h : IsSet w kt b n L) {w' : World} (hk : w'.heap[b]? = w.heap[b]?) : IsSet w' kt b n L := by
  obtain ⟨D, h1, h2⟩ := h
  exact ⟨D, owns_same h1 hk, h2⟩

theorem IsSet.lt {kt b n : Nat} {L : List Lit} (h : IsSet w kt b n L) : b < w.heap.size := by obtain ⟨D, h1, _⟩ := h; exact h1.lt

theorem IsSet.more {kt b n m : Nat} {L : List Lit} (h : IsSet w kt b n L) (hm : n ≤ m) : IsSet w kt b m L := by
  obtain ⟨D, h1, h2, h3, h4, h5⟩ := h
  exact ⟨D, h1.mono hm, h2, h3, h4, fun k => by obtain ⟨c, hc, hn⟩ := h5 k; exact ⟨c, hc, by omega⟩⟩

theorem IsSet.made (w : World) (kt : Nat) : IsSet (w.alloc (.map #[] 0)) kt w.heap.size 0 [] :=
  ⟨.map [], World.ownsMap_made _ _ _ _, by simp, by simp [has], rfl, fun k => ⟨0, by simp [DataW.atKey], Nat.le_refl _⟩⟩

/-- A key is put. -/
def putL (L : List Lit) (kl : Lit) (dec : Decidable (kl ∈ L) := Classical.propDecidable _) : List Lit := @ite _ (kl ∈ L) dec L (L ++ [kl])

theorem set_put {D : DataW Unit} {L : List Lit} {kl : Lit} {n c : Nat} (hm : IsMap D) (ht : Tidy D) (hk : WideAt.IsKeyLit kl) (h2 : L.Nodup) (h3 : ∀ k, has D k = true ↔ k ∈ L) (h4 : size D = L.length) (h5 : ∀ k, ∃ c : Nat, D.atKey k (.lit (.int .i64 0)) = .lit (.int .i64 c) ∧ c ≤ n) (hc : c ≤ n) :
    (putL L kl).Nodup ∧ (∀ k, has (D.put kl (.lit (.int .i64 ((c : Int) + 1)))) k = true ↔ k ∈ putL L kl) ∧ size (D.put kl (.lit (.int .i64 ((c : Int) + 1)))) = (putL L kl).length ∧ ∀ k, ∃ c' : Nat, (D.put kl (.lit (.int .i64 ((c : Int) + 1)))).atKey k (.lit (.int .i64 0)) = .lit (.int .i64 c') ∧ c' ≤ n + 1 := by
  have hmem : ∀ k, k ∈ putL L kl ↔ k ∈ L ∨ k = kl := by
    intro k
    unfold putL
    split
    · rename_i h
      constructor
      · exact .inl
      · rintro (h' | rfl)
        · exact h'
        · exact h
    · simp
  refine ⟨?_, ?_, ?_, ?_⟩
  · unfold putL
    split
    · exact h2
    · rename_i h
      rw [List.nodup_append]
      exact ⟨h2, by simp, by rintro a ha b hb rfl; simp at hb; subst hb; exact h ha⟩
  · intro k
    rw [hmem]
    by_cases e : k = kl
    · subst e; simp [has_put_same hm hk]
    · rw [has_put_other e, h3]; simp [e]
  · rw [size_put ht]
    unfold putL
    by_cases e : kl ∈ L
    · rw [if_pos ((h3 kl).2 e), if_pos e]; exact h4
    · rw [if_neg (fun h => e ((h3 kl).1 h)), if_neg e]; simp [h4]
  · intro k
    by_cases e : k = kl
    · subst e
      rw [atKey_put_same hm hk]
      exact ⟨c + 1, by simp, by omega⟩
    · rw [atKey_put_other e]
      obtain ⟨c', h, hn⟩ := h5 k
      exact ⟨c', h, by omega⟩

/-- 'm[k]++', by a lookup and an update. -/
theorem IsSet.count {kt mt b n : Nat} {L : List Lit} (h : IsSet w kt b n L) (K : Keyed Try.prog kt) (ht : Try.prog.underlying mt = some (.map kt 3)) (hn : n ≤ 1099511627776) {key : Value} {kl : Lit} (hkey : keyOf Try.prog kt key = some kl) :
    ∃ c : Nat, c ≤ n ∧ (∀ W : World, W.heap[b]? = w.heap[b]? → (Instr.lookup mt (.map (some b)) key false).run Try.prog W = .ok (.int .i64 c) W) ∧
      ∀ W : World, W.heap[b]? = w.heap[b]? → ∃ w2, (Instr.mapUpdate mt (.map (some b)) key (.int .i64 ((c : Int) + 1))).run Try.prog W = .ok () w2 ∧ IsSet w2 kt b (n + 1) (putL L kl) ∧ W.grownBy w2 (some b) := by
  obtain ⟨D, h1, h2, h3, h4, h5⟩ := h
  obtain ⟨c, hc, hcn⟩ := h5 kl
  refine ⟨c, hcn, fun W hW => ?_, fun W hW => ?_⟩
  · obtain ⟨c', hrun, hat, -⟩ := (owns_same h1 hW).lookup_int K ht Try.underlying3 (zeroI W) hkey
    rw [hc] at hat
    simp at hat
    rw [hrun, ← hat]
  · obtain ⟨w2, hrun, hown, hg⟩ := (owns_same h1 hW).update K ht (by unfold maxLen; omega) hkey (val := .int .i64 ((c : Int) + 1)) (plainElem_int Try.underlying3 (wfI (by omega)))
    obtain ⟨p1, p2, p3, p4⟩ := set_put h1.isMap (h1.tidy K) (K.key hkey) h2 h3 h4 h5 hcn
    exact ⟨w2, hrun, ⟨_, hown, p1, p2, p3, p4⟩, hg⟩

/-- 'm[k]++', by a lookup, an entry and a store into it, the lookup ahead of the entry or behind. -/
theorem IsSet.entry {kt mt b n : Nat} {L : List Lit} (h : IsSet w kt b n L) (K : KeyLaw Try.prog kt) (ht : Try.prog.underlying mt = some (.map kt 3)) (hn : n ≤ 1099511627776) {key : Value} {kl : Lit} (hkey : keyOf Try.prog kt key = some kl) (hz : ∀ u : World, (zeroValue 3).run Try.prog u = .ok (.int .i64 0) u) :
    ∃ (c : Nat) (st : Int) (v0 : Value), c ≤ n ∧ (∀ W : World, W.heap[b]? = w.heap[b]? → (Instr.lookup mt (.map (some b)) key false).run Try.prog W = .ok (.int .i64 c) W) ∧
      ∃ w1, (Instr.mapEntry mt (.map (some b)) key).run Try.prog w = .ok (.tuple #[v0, goInt st]) w1 ∧ w.grownBy w1 (some b) ∧ (∀ W : World, W.heap[b]? = w1.heap[b]? → (Instr.lookup mt (.map (some b)) key false).run Try.prog W = .ok (.int .i64 c) W) ∧
      ∀ W : World, W.heap[b]? = w1.heap[b]? → ∃ w2, (Instr.entryStore mt (.map (some b)) (goInt st) (.int .i64 ((c : Int) + 1))).run Try.prog W = .ok () w2 ∧ IsSet w2 kt b (n + 1) (putL L kl) ∧ W.grownBy w2 (some b) := by
  obtain ⟨D, h1, h2, h3, h4, h5⟩ := h
  obtain ⟨c, hc, hcn⟩ := h5 kl
  obtain ⟨v0, st, w1, hrun, ⟨D1, n1, hown1, hat1⟩, hg1, hst⟩ := entry_look K ht hz (plainElem_int Try.underlying3 (wfI (by omega))) h1 (by unfold maxLen; omega) hkey
  refine ⟨c, st, v0, hcn, fun W hW => ?_, w1, hrun, hg1, fun W hW => ?_, fun W hW => ?_⟩
  · obtain ⟨c', hr, hat, -⟩ := (owns_same h1 hW).lookup_int (Keyed.of_law K) ht Try.underlying3 (hz W) hkey
    rw [hc] at hat
    simp at hat
    rw [hr, ← hat]
  · obtain ⟨c', hr, hat, -⟩ := (owns_same hown1 hW).lookup_int (Keyed.of_law K) ht Try.underlying3 (hz W) hkey
    rw [hat1, hc] at hat
    simp at hat
    rw [hr, ← hat]
  · obtain ⟨w3, hr3, hown3, hg3⟩ := hst W (.int .i64 ((c : Int) + 1)) _ _ hW (plainElem_int Try.underlying3 (wfI (by omega)))
    obtain ⟨p1, p2, p3, p4⟩ := set_put h1.isMap (h1.tidy (Keyed.of_law K)) ((Keyed.of_law K).key hkey) h2 h3 h4 h5 hcn
    exact ⟨w3, hr3, ⟨_, hown3, p1, p2, p3, p4⟩, hg3⟩

theorem IsSet.len {kt mt b n : Nat} {L : List Lit} (h : IsSet w kt b n L) (ht : Try.prog.underlying mt = some (.map kt 3)) (ty : TypeId) : (Builtin.len_ #[mt] ty #[.map (some b)]).run Try.prog w = .ok (.int .i64 L.length) w := by
  obtain ⟨D, h1, h2, h3, h4, h5⟩ := h
  rw [h1.len ht, h4]

end Go.Proofs.Ytgokofomoachaab
