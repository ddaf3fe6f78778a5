/- What an operation came to: comesTo, throws, whole, truth. -/
import Derived.Test.YtgokofomoachaaaPmCopyOf
namespace Go.Proofs.Ytgokofomoachaaa
set_option linter.unusedVariables false
set_option linter.unusedSimpArgs false
open Go.RowKit

variable {w : World}

/-- What an operation came to: a store of its own memory, a value, what is thrown, words. -/
def DidR (w : World) (S : List Om) (v : Vl) (t : ByteArray) (n : Int) (e : Ending) (w' : World) : Prop :=
  ∃ p c, e = .returned (.agg #[.slice p S.length c, .int .u8 v.k, .int .i64 v.n, .string t, .int .i64 n]) ∧ (∃ ts, ts.map Po.o = S ∧ OwnSt w.heap.size (.slice p S.length c) ts w') ∧ Below w.heap.size w w'

theorem OwnSt.keptT {base : Nat} {v : Value} {ts : List Po} (h : OwnSt base v ts w) {w' : World} (hk : ∀ (k : Nat) (cur : Array Value) (T : TypeId), w.heap[k]? = some (.cells cur T (0, 0)) → (T = 39 ∨ T = 26) → w'.heap[k]? = w.heap[k]?) : OwnSt base v ts w' :=
  ⟨row_kept h.row (fun k e => by obtain ⟨cur, hc⟩ := row_obj h.row e; exact hk k cur _ hc (.inl rfl)), fun x hx => row_kept (h.lst x hx) (fun k e => by obtain ⟨cur, hc⟩ := row_obj (h.lst x hx) e; exact hk k cur _ hc (.inr rfl)), h.one⟩

theorem did_fin {W : World} {r : Nat} {a0 a1 a2 a3 a4 : Value} (hr : W.heap[r]? = some (.cells #[a0, a1, a2, a3, a4] 28 (0, 0))) (hge : w.heap.size ≤ r) {S : List Om} {p : Option Addr} {c : Nat} (hts : ∃ ts, ts.map Po.o = S ∧ OwnSt w.heap.size (.slice p S.length c) ts W) (hB : Below w.heap.size w W) (v : Vl) (t : ByteArray) (n : Int) :
    DidR w S v t n (.returned (.agg #[.slice p S.length c, .int .u8 v.k, .int .i64 v.n, .string t, .int .i64 n])) (((((W.setCell ⟨r, 0, none⟩ (.slice p S.length c)).setCell ⟨r, 1, none⟩ (.int .u8 v.k)).setCell ⟨r, 2, none⟩ (.int .i64 v.n)).setCell ⟨r, 3, none⟩ (.string t)).setCell ⟨r, 4, none⟩ (.int .i64 n)) := by
  obtain ⟨ts, hm, ho⟩ := hts
  refine ⟨p, c, rfl, ⟨ts, hm, ho.keptT (fun k cur T hk hT => ?_)⟩, below_set5 hB hge _ _ _ _ _⟩
  have hne : k ≠ r := fun e => by
    subst e
    rw [hr] at hk
    cases hk
    rcases hT with h | h <;> cases h
  exact set5_other (j := 0) _ _ _ _ _ hne

theorem DidR.from {w0 : World} {S : List Om} {v : Vl} {t : ByteArray} {n : Int} {e : Ending} {w' : World} (h : DidR w S v t n e w') (hB : Below w0.heap.size w0 w) : DidR w0 S v t n e w' := by
  obtain ⟨p, c, he, ⟨ts, hm, ho⟩, hb⟩ := h
  exact ⟨p, c, he, ⟨ts, hm, ho.mono hB.size⟩, hB.trans (hb.mono hB.size)⟩

theorem infoDid : (Try.prog.info? 28).map (·.size) = some 5 := by kernel_rfl

theorem infoVal2 : (Try.prog.info? 26).map (·.size) = some 2 := by kernel_rfl

/-- A store that operations are asked of. -/
structure Ask (w : World) (p : Option Addr) (S : List Om) : Prop where
  st : IsSt w p S
  len : S.length ≤ 1048576
  vals : ∀ o ∈ S, o.l.length ≤ 100000
  str : ∀ o ∈ S, o.s.size ≤ 1048576
  fit : ∀ o ∈ S, o.fits

theorem Ask.below {p : Option Addr} {S : List Om} (h : Ask w p S) {w' : World} (hB : Below w.heap.size w w') : Ask w' p S := ⟨h.st.below hB, h.len, h.vals, h.str, h.fit⟩

theorem Ask.copyOf {p : Option Addr} {S : List Om} (h : Ask w p S) (c : Nat) : Calls Try.prog 17 #[.slice p S.length c] w fun e w' => ∃ v, e = .returned v ∧ (∃ ts, ts.map Po.o = S ∧ OwnSt w.heap.size v ts w') ∧ Below w.heap.size w w' :=
  copyOf_in c h.st h.len (fun o ho => Nat.le_trans (h.vals o ho) (by decide)) h.str

theorem own_len {base : Nat} {v : Value} {ts : List Po} {S : List Om} (h : OwnSt base v ts w) (hm : ts.map Po.o = S) : ∃ p c, v = .slice p S.length c := by
  obtain ⟨p, c, hv, -⟩ := own_slice h.row
  exact ⟨p, c, by rw [hv, ← hm]; simp⟩

/-- A truth value. -/
def tru (b : Bool) : Vl := ⟨1, if b then 1 else 0⟩

end Go.Proofs.Ytgokofomoachaaa
