/- Each key once: plainly; the places of keys in a map. -/
import Derived.Test.YtgokofomoachaaaGreatDoorPmSets
import Derived.Test.YtgokofomoachaaaGreatDoorShHolds
import Derived.Maps.OwnSet
import Derived.Test.YtgokofomoachaaaGreatDoorPwRef
import Derived.Test.YtgokofomoachaaaGreatDoorPkAt
import Derived.Test.YtgokofomoachaaaGreatDoorPbTexts
namespace Go.Proofs.YtgokofomoachaaaGreatDoor
set_option linter.unusedVariables false
set_option linter.unusedSimpArgs false
open Go.RowKit Go.Maps
open Go.WideMaps (KeyLaw)

variable {w : World}

theorem keyAt_one {S : List Om} {l : List Vl} {k : Vl} {a b : Option Nat} (ha : KeyAt S l k a) (hb : KeyAt S l k b) : a = b := by
  cases a with
  | none =>
    cases b with
    | none => rfl
    | some j => obtain ⟨h1, ⟨x, hx, he⟩, -⟩ := hb; exact (ha j x h1 hx he).elim
  | some i =>
    obtain ⟨h1, ⟨x, hx, he⟩, h2⟩ := ha
    cases b with
    | none => exact (hb i x h1 hx he).elim
    | some j =>
      obtain ⟨g1, ⟨y, hy, hf⟩, g2⟩ := hb
      rcases Nat.lt_trichotomy i j with h | h | h
      · exact (g2 i x h h1 hx he).elim
      · rw [h]
      · exact (h2 j y h g1 hy hf).elim

/-- A pair is put. -/
def putM (out : List Vl) (k x : Vl) : Option Nat → List Vl
  | some i => out.set (i + 1) x
  | none => out ++ [k, x]

/-- What is there of so many pairs. -/
def EachN (S : List Om) (l : List Vl) : Nat → List Vl → Prop
  | 0, out => out = []
  | n + 1, out => ∃ o r k x, EachN S l n o ∧ l[2 * n]? = some k ∧ l[2 * n + 1]? = some x ∧ KeyAt S o k r ∧ out = putM o k x r

theorem each_ex {S : List Om} {l : List Vl} : ∀ n : Nat, 2 * n ≤ l.length → ∃ out, EachN S l n out
  | 0, _ => ⟨[], rfl⟩
  | n + 1, h => by
    obtain ⟨o, ho⟩ := each_ex (S := S) (l := l) n (by omega)
    obtain ⟨r, hr⟩ := keyAt_ex S o (l[2 * n]'(by omega))
    exact ⟨_, o, r, l[2 * n]'(by omega), l[2 * n + 1]'(by omega), ho, List.getElem?_eq_getElem _, List.getElem?_eq_getElem _, hr, rfl⟩

theorem each_one {S : List Om} {l : List Vl} : ∀ {n : Nat} {a b : List Vl}, EachN S l n a → EachN S l n b → a = b
  | 0, a, b, ha, hb => by
    have h1 : a = [] := ha
    have h2 : b = [] := hb
    rw [h1, h2]
  | n + 1, a, b, ha, hb => by
    obtain ⟨o, r, k, x, h1, h2, h3, h4, rfl⟩ := ha
    obtain ⟨o', r', k', x', g1, g2, g3, g4, rfl⟩ := hb
    rw [h2] at g2; cases g2
    rw [h3] at g3; cases g3
    have e := each_one h1 g1
    subst e
    rw [keyAt_one h4 g4]

theorem put_len {o : List Vl} {k x : Vl} {r : Option Nat} : (putM o k x r).length ≤ o.length + 2 ∧ ((putM o k x r).length % 2 = o.length % 2) := by
  cases r with
  | none => simp [putM]
  | some i => simp [putM]

theorem each_len {S : List Om} {l : List Vl} : ∀ {n : Nat} {out : List Vl}, EachN S l n out → out.length ≤ 2 * n ∧ out.length % 2 = 0
  | 0, out, h => by
    have h1 : out = [] := h
    subst h1; exact ⟨Nat.le_refl _, rfl⟩
  | n + 1, out, h => by
    obtain ⟨o, r, k, x, h1, h2, h3, h4, rfl⟩ := h
    obtain ⟨e1, e2⟩ := each_len h1
    obtain ⟨p1, p2⟩ := put_len (o := o) (k := k) (x := x) (r := r)
    omega

theorem keyAt_lt {S : List Om} {l : List Vl} {k : Vl} {i : Nat} (h : KeyAt S l k (some i)) (he : l.length % 2 = 0) : i + 1 < l.length ∧ i % 2 = 0 := by
  obtain ⟨h1, ⟨x, hx, -⟩, -⟩ := h
  have := (List.getElem?_eq_some_iff.1 hx).1
  omega

/-- Where keys stand when a value is another one. -/
theorem keyAt_set {S : List Om} {o : List Vl} {v x : Vl} {r : Option Nat} {i : Nat} (hi : i % 2 = 0) (h : KeyAt S (o.set (i + 1) x) v r) : KeyAt S o v r := by
  have hg : ∀ j : Nat, j % 2 = 0 → (o.set (i + 1) x)[j]? = o[j]? := fun j hj => by rw [List.getElem?_set_ne (by omega)]
  cases r with
  | none => intro j y hj hy; exact h j y hj (by rw [hg j hj]; exact hy)
  | some m =>
    obtain ⟨h1, ⟨y, hy, he⟩, h2⟩ := h
    exact ⟨h1, ⟨y, by rw [← hg m h1]; exact hy, he⟩, fun j z hlt hj hz => h2 j z hlt hj (by rw [hg j hj]; exact hz)⟩

/-- Where keys stand when a pair is there besides. -/
theorem keyAt_more {S : List Om} {o : List Vl} {v k x : Vl} {r r0 : Option Nat} (he : o.length % 2 = 0) (h0 : KeyAt S o v r0) (h : KeyAt S (o ++ [k, x]) v r) : (r0 ≠ none → r = r0) ∧ (r0 = none → essP S v = essP S k → r = some o.length) ∧ (r0 = none → essP S v ≠ essP S k → r = none) := by
  refine ⟨fun hn => ?_, fun hn e => ?_, fun hn e => ?_⟩
  · refine keyAt_one h ?_
    cases r0 with
    | none => exact (hn rfl).elim
    | some i =>
      obtain ⟨h1, ⟨y, hy, hye⟩, h2⟩ := h0
      have hlt := (List.getElem?_eq_some_iff.1 hy).1
      refine ⟨h1, ⟨y, by rw [List.getElem?_append_left hlt]; exact hy, hye⟩, fun j z hj hj2 hz => ?_⟩
      rw [List.getElem?_append_left (by omega)] at hz
      exact h2 j z hj hj2 hz
  · subst hn
    refine keyAt_one h ⟨he, ⟨k, by rw [List.getElem?_append_right (Nat.le_refl _)]; simp, e.symm⟩, fun j z hj hj2 hz => ?_⟩
    rw [List.getElem?_append_left hj] at hz
    exact h0 j z hj2 hz
  · subst hn
    refine keyAt_one h ?_
    intro j z hj2 hz
    by_cases hj : j < o.length
    · rw [List.getElem?_append_left hj] at hz
      exact h0 j z hj2 hz
    · rw [List.getElem?_append_right (by omega)] at hz
      by_cases h00 : j = o.length
      · subst h00
        simp at hz
        subst hz
        exact fun e2 => e e2.symm
      · obtain ⟨m, hm⟩ : ∃ m, j - o.length = m + 2 := ⟨j - o.length - 2, by omega⟩
        rw [hm] at hz
        simp at hz

/-- An essence as a key. -/
def litE (e : Ess) : Lit := .string (keyBytes [.int .u8 e.k, .int .i64 e.n, .string e.s.data.toList])

def Ess.fits (e : Ess) : Prop := e.k < 256 ∧ (-9223372036854775808 ≤ e.n ∧ e.n ≤ 9223372036854775807) ∧ e.s.size ≤ 1048576

theorem rowEss : (324 : TypeId) < Tryz.prog.types.size := of_decide_eq_true (by kernel_rfl)

theorem wideEss : (match Tryz.prog.underlying 324 with | some (.array _ _) | some (.struct _) => true | _ => false) = true := by kernel_rfl

set_option maxRecDepth 100000 in
theorem lawEss : KeyLaw Tryz.prog 324 := deep_law_laid laidOut0 (m := 4) (by omega) rowEss (by kernel_rfl) wideEss

theorem keyTypeEss : Tryz.prog.keyType 324 = true := by kernel_rfl

set_option maxRecDepth 100000 in
theorem keyOf_ess {e : Ess} (h : e.fits) : keyOf Tryz.prog 324 e.V = some (litE e) := by
  obtain ⟨m, hm⟩ : ∃ m, Tryz.prog.types.size = m + 2 := ⟨Tryz.prog.types.size - 2, by have : (2 : Nat) ≤ Tryz.prog.types.size := of_decide_eq_true (by kernel_rfl); omega⟩
  have c0 : Tryz.prog.cellsOf 25 = 1 := by kernel_rfl
  have c1 : Tryz.prog.cellsOf 2 = 1 := by kernel_rfl
  have c2 : Tryz.prog.cellsOf 27 = 2 := by kernel_rfl
  have c3 : Tryz.prog.cellsOf 9 = 1 := by kernel_rfl
  have w0 := wfK h.1
  have w1 := wfI h.2.1
  have w2 : e.s.size ≤ maxLen := Nat.le_trans h.2.2 (by unfold maxLen; decide)
  have cE : Tryz.prog.cellsOf 324 = 3 := by kernel_rfl
  have hf : e.V.formed Tryz.prog 324 = true := by
    simp [Ess.V, Value.formed, Tryz.underlying324, cE]
  have hlits : Tryz.prog.keyLits (Tryz.prog.types.size + 1) 324 [.int .u8 e.k, .int .i64 e.n, .string e.s] = some [.int .u8 e.k, .int .i64 e.n, .string e.s.data.toList] := by
    rw [hm]
    simp [Program.keyLits, Tryz.underlying324, Tryz.underlying27, cellsVal, cE, c0, c1, c2, c3, Tryz.underlying25, Tryz.underlying2, Tryz.underlying9, w0, w1, w2]
    rw [if_pos (by intro i hi; rcases i with _ | _ | i <;> first | (simp; done) | omega)]
    rfl
  unfold keyOf
  rw [Tryz.underlying324]
  simp only [keyTypeEss, hf, Bool.and_self, if_true]
  rw [show e.V.cells.toList = [.int .u8 e.k, .int .i64 e.n, .string e.s] from rfl, hlits]
  rfl

theorem litE_inj {a b : Ess} (ha : a.fits) (hb : b.fits) (h : litE a = litE b) : a = b := by
  have h1 := keyOf_ess ha
  have h2 := keyOf_ess hb
  rw [← h] at h2
  have := (Keyed.of_law lawEss).inj h1 h2
  simp [Ess.V] at this
  obtain ⟨k, n, s⟩ := a
  obtain ⟨k', n', s'⟩ := b
  dsimp only at this
  obtain ⟨e1, e2, e3⟩ := this
  have e1 : k = k' := by omega
  rw [e1, e2, e3]

theorem ess_fits {S : List Om} (hstr : ∀ o ∈ S, o.s.size ≤ 1048576) {v : Vl} (hv : v.fits) : (essP S v).fits := by
  unfold essP
  by_cases h3 : v.k = 3
  · rw [if_pos h3]
    refine ⟨by show (3 : Nat) < 256; omega, ⟨by show (-9223372036854775808 : Int) ≤ 0; omega, by show (0 : Int) ≤ 9223372036854775807; omega⟩, ?_⟩
    cases h : leadO S v with
    | none => show (0 : Nat) ≤ 1048576; omega
    | some o => obtain ⟨-, -, -, j, -, -, hj⟩ := leadO_some h; exact hstr o (List.mem_of_getElem? hj)
  · rw [if_neg h3]
    exact ⟨hv.1, hv.2, by show (0 : Nat) ≤ 1048576; omega⟩

/-- The places of keys. -/
def IsPl (w : World) (b n : Nat) (S : List Om) (out : List Vl) : Prop :=
  ∃ D : DataW Unit, w.ownsMap Tryz.prog 324 (plainElem Tryz.prog 3) b n D ∧ ∀ v : Vl, v.fits → ∀ r, KeyAt S out v r → has D (litE (essP S v)) = r.isSome ∧ D.atKey (litE (essP S v)) (.lit (.int .i64 0)) = .lit (.int .i64 (r.getD 0 : Nat))

theorem IsPl.kept {b n : Nat} {S : List Om} {out : List Vl} (h : IsPl w b n S out) {w' : World} (hk : w'.heap[b]? = w.heap[b]?) : IsPl w' b n S out := by
  obtain ⟨D, h1, h2⟩ := h
  exact ⟨D, owns_same h1 hk, h2⟩

theorem IsPl.lt {b n : Nat} {S : List Om} {out : List Vl} (h : IsPl w b n S out) : b < w.heap.size := by obtain ⟨D, h1, _⟩ := h; exact h1.lt

theorem IsPl.more {b n m : Nat} {S : List Om} {out : List Vl} (h : IsPl w b n S out) (hm : n ≤ m) : IsPl w b m S out := by
  obtain ⟨D, h1, h2⟩ := h
  exact ⟨D, h1.mono hm, h2⟩

theorem IsPl.made (w : World) (S : List Om) : IsPl (w.alloc (.map #[] 0)) w.heap.size 0 S [] := by
  refine ⟨.map [], World.ownsMap_made _ _ _ _, fun v hv r hr => ?_⟩
  have e : r = none := keyAt_one hr (by intro j y hj hy; simp at hy)
  subst e
  exact ⟨by simp [has], by simp [DataW.atKey]⟩

theorem IsPl.set {b n : Nat} {S : List Om} {out : List Vl} (h : IsPl w b n S out) {i : Nat} (hi : i % 2 = 0) (x : Vl) : IsPl w b n S (out.set (i + 1) x) := by
  obtain ⟨D, h1, h2⟩ := h
  exact ⟨D, h1, fun v hv r hr => h2 v hv r (keyAt_set hi hr)⟩

/-- A look-up. -/
theorem IsPl.look {b n : Nat} {S : List Om} {out : List Vl} (h : IsPl w b n S out) (hstr : ∀ o ∈ S, o.s.size ≤ 1048576) {v : Vl} (hv : v.fits) {r : Option Nat} (hr : KeyAt S out v r) {W : World} (hW : W.heap[b]? = w.heap[b]?) :
    (Instr.lookup 322 (.map (some b)) (essP S v).V true).run Tryz.prog W = .ok (.tuple #[.int .i64 (r.getD 0 : Nat), .bool r.isSome]) W := by
  obtain ⟨D, h1, h2⟩ := h
  obtain ⟨e1, e2⟩ := h2 v hv r hr
  obtain ⟨u, ps, hrun, hu⟩ := (owns_same h1 hW).look_ok (Keyed.of_law lawEss) Tryz.underlying322 (zeroI W) (plainElem_int Tryz.underlying3 (wfI (by omega))) (keyOf_ess (ess_fits hstr hv))
  rw [e1] at hrun
  rw [e2] at hu
  obtain ⟨c, rfl, hc, -⟩ := plainElem_int_inv Tryz.underlying3 hu
  simp only [Prod.mk.injEq] at hc
  have : c = ((r.getD 0 : Nat) : Int) := by have := hc.1; simpa using this.symm
  rw [hrun, this]

/-- An update: a key that was not there. -/
theorem IsPl.put {b n : Nat} {S : List Om} {out : List Vl} (h : IsPl w b n S out) (hstr : ∀ o ∈ S, o.s.size ≤ 1048576) {k x : Vl} (hk : k.fits) (hr : KeyAt S out k none) (hev : out.length % 2 = 0) (hn : n ≤ 1099511627776) (hl : out.length ≤ 1099511627776) {W : World} (hW : W.heap[b]? = w.heap[b]?) :
    ∃ w2, (Instr.mapUpdate 322 (.map (some b)) (essP S k).V (.int .i64 out.length)).run Tryz.prog W = .ok () w2 ∧ IsPl w2 b (n + 1) S (out ++ [k, x]) ∧ W.grownBy w2 (some b) := by
  obtain ⟨D, h1, h2⟩ := h
  have hkey := keyOf_ess (ess_fits hstr hk)
  have ho := owns_same h1 hW
  obtain ⟨w2, hrun, hown, hg⟩ := ho.update (Keyed.of_law lawEss) Tryz.underlying322 (by unfold maxLen; omega) hkey (val := .int .i64 (out.length : Nat)) (plainElem_int Tryz.underlying3 (wfI (by omega)))
  refine ⟨w2, hrun, ⟨_, hown, fun v hv r hrv => ?_⟩, hg⟩
  obtain ⟨r0, hr0⟩ := keyAt_ex S out v
  have e := keyAt_more hev hr0 hrv
  obtain ⟨p1, p2⟩ := h2 v hv r0 hr0
  by_cases es : essP S v = essP S k
  · have hn0 : r0 = none := by
      cases r0 with
      | none => rfl
      | some i => obtain ⟨q1, ⟨y, hy, hye⟩, -⟩ := hr0; exact (hr i y q1 hy (hye.trans es)).elim
    subst hn0
    have e := e.2.1 rfl es
    subst e
    rw [es]
    exact ⟨has_put_same h1.isMap ((Keyed.of_law lawEss).key hkey) _, atKey_put_same h1.isMap ((Keyed.of_law lawEss).key hkey) _ _⟩
  · have hne : litE (essP S v) ≠ litE (essP S k) := fun e2 => es (litE_inj (ess_fits hstr hv) (ess_fits hstr hk) e2)
    have hre : r = r0 := by
      cases r0 with
      | none => exact e.2.2 rfl es
      | some i => exact e.1 (fun e2 => by cases e2)
    subst hre
    rw [has_put_other hne, atKey_put_other hne]
    exact ⟨p1, p2⟩

end Go.Proofs.YtgokofomoachaaaGreatDoor

namespace Go.Proofs.YtgokofomoachaaaGreatDoor
set_option linter.unusedVariables false
set_option linter.unusedSimpArgs false
open Go.RowKit Go.Maps

variable {w : World}

theorem vals_of_row {base n : Nat} {v : Value} {l : List Vl} (h : w.ownsRow base 27 2 v n (vcells l)) : ∃ q c, v = .slice q l.length c ∧ n = l.length ∧ (q = none → c = 0) ∧ VT w q l := by
  obtain ⟨p, c, hv, hn, hg, -⟩ := own_slice h
  have e : n = l.length := by have := h.1; rw [vcells_len] at this; omega
  subst e
  subst hv
  refine ⟨p, c, rfl, rfl, hn, ?_⟩
  cases p with
  | none =>
    have h0 : l = [] := by
      cases l with
      | nil => rfl
      | cons y r => obtain ⟨g, e⟩ := hg (by simp); cases e
    subst h0
    exact VT.none _
  | some ad =>
    rcases h.2 with ⟨e, -⟩ | ⟨g, cap, cur, e, -⟩
    · cases e
    · cases e
      exact vt_of_row h

/-- A value of a row of one's own is another one. -/
theorem row_put {base g n c : Nat} {l : List Vl} (h : w.ownsRow base 27 2 (.slice (some ⟨g, 0, none⟩) n c) n (vcells l)) {j : Nat} (hj : j < l.length) (u : Vl) :
    ((w.setCell ⟨g, j * 2, none⟩ (.int .u8 u.k)).setCell ⟨g, j * 2 + 1, none⟩ (.int .i64 u.n)).ownsRow base 27 2 (.slice (some ⟨g, 0, none⟩) n c) n (vcells (l.set j u)) := by
  have hn : n = l.length := by have := h.1; rw [vcells_len] at this; omega
  have := rowSet (rowSet h (j := j * 2) (by omega) (.int .u8 u.k)) (j := j * 2 + 1) (by omega) (.int .i64 u.n)
  rw [vcells_put l j u hj] at this
  exact this

/-- What stands before a round. -/
structure OnceW (w : World) (S : List Om) (l : List Vl) (j : Nat) (o : List Vl) (s5 : Value) (wr : World) : Prop where
  each : EachN S l j o
  row : wr.ownsRow (w.heap.size + 1) 27 2 s5 o.length (vcells o)
  pl : IsPl wr w.heap.size j S o
  bel : Below w.heap.size w wr
  siz : w.heap.size + 1 ≤ wr.heap.size

set_option maxRecDepth 20000 in
set_option maxHeartbeats 4000000 in
theorem eachKeyOnce_in {p : Option Addr} {S : List Om} (h : Ask w p S) (c : Nat) {l : List Vl} {q : Option Addr} (cq : Nat) (hv : Vals w q l) (hl : l.length ≤ 65536) (hev : l.length % 2 = 0) (hfit : ∀ v ∈ l, v.fits) (ht : ∀ v ∈ l, SameOk S v) {out : List Vl} (ho : EachN S l (l.length / 2) out) :
    Calls Tryz.prog 182 #[.slice p S.length c, .slice q l.length cq] w fun e w' => ∃ v, e = .returned v ∧ w'.ownsRow w.heap.size 27 2 v out.length (vcells out) ∧ Below w.heap.size w w' := by
  have hmm := @run_makeMap Tryz.prog
  have HO : Hid _ := And.intro ho (And.intro hev (And.intro hfit ht))
  clear ho hev hfit ht
  go_enter Tryz.func182, Tryz.ntmps182
  go_wp2_with fail
  have st0 : OnceW w S l 0 [] (.slice none 0 0) (w.alloc (.map #[] 0)) := ⟨rfl, ⟨rfl, .inl ⟨rfl, rfl⟩⟩, IsPl.made w S, below1 _ _, by simp⟩
  go_loopw [5, 7] (fun s5 s7 wr => ∃ (j I : Nat) (o : List Vl), s7 = .int .i64 (I : Int) ∧ Hid (I = 2 * j) ∧ I ≤ l.length ∧ Hid (OnceW w S l j o s5 wr)) (fun s5 s7 _ => l.length + 1 - (intOf s7).toNat)
  case atStart => exact ⟨0, 0, [], rfl, rfl, by omega, st0⟩
  case round =>
    clear st0
    obtain ⟨j, I, o, rfl, HI, hI, HE⟩ := hrel
    have hsz := HE.out.bel.size
    have hB := HE.out.bel
    by_cases hIn : I < l.length
    · have hIn' : (I : Int) < (l.length : Int) := by omega
      have hI1 : I + 1 < l.length := by have := HI.out; have := HO.out.2.1; omega
      have hI1' : (I : Int) + 1 < (l.length : Int) := by omega
      obtain ⟨k, hk⟩ : ∃ k, l[I]? = some k := ⟨l[I], by simp⟩
      obtain ⟨x, hx⟩ : ∃ x, l[I + 1]? = some x := ⟨l[I + 1], by simp⟩
      obtain ⟨b0, off, rfl, c0, c1⟩ := hv I k hk
      obtain ⟨b0', off', e', d0, d1⟩ := hv (I + 1) x hx
      cases e'
      have hbl : b0 < w.heap.size := World.block_lt_of_cell? w _ c0
      have hkm := List.mem_of_getElem? hk
      have hkf := HO.out.2.2.1 k hkm
      have hks := HO.out.2.2.2 k hkm
      obtain ⟨r, hr⟩ := keyAt_ex S o k
      have HC : Hid (∀ W, Below w.heap.size w W → (W.cell? ⟨b0, off + I * 2, none⟩ = some (.int .u8 k.k) ∧ W.cell? ⟨b0, off + I * 2 + 1, none⟩ = some (.int .i64 k.n)) ∧ (W.cell? ⟨b0, off + (I + 1) * 2, none⟩ = some (.int .u8 x.k) ∧ W.cell? ⟨b0, off + (I + 1) * 2 + 1, none⟩ = some (.int .i64 x.n))) := fun W hb => ⟨⟨(hb.cell (p := ⟨b0, off + I * 2, none⟩) hbl).trans c0, (hb.cell (p := ⟨b0, off + I * 2 + 1, none⟩) hbl).trans c1⟩, (hb.cell (p := ⟨b0, off + (I + 1) * 2, none⟩) hbl).trans d0, (hb.cell (p := ⟨b0, off + (I + 1) * 2 + 1, none⟩) hbl).trans d1⟩
      obtain ⟨⟨g0, g1⟩, -⟩ := HC.out wr hB
      have HES := essenceOf_in (h.below hB) c k hks.1
      obtain ⟨E, hE⟩ : ∃ E, essP S k = E := ⟨_, rfl⟩
      rw [hE] at HES
      unfold Ess.V at HES
      have HK : Hid _ := And.intro hk (And.intro hx (And.intro hkf (And.intro hks hr)))
      clear hk hx hkm hkf hks hr c0 c1 d0 d1
      go_wp2_with (first
        | (go_at_call 252; (with_reducible refine HES.mono ?_); clear HES; rintro e w1 ⟨rfl, hB1⟩; refine halt_here ?_))
      unfold Halted
      have hBw1 := hB.trans (hB1.mono hsz)
      have hpl1 := HE.out.pl.kept (hB1.block _ HE.out.pl.lt)
      have hrow1 := row_below HE.out.row hB1
      have hnew := heap_alloc_new w1 (.cells #[.int .u8 E.k, .int .i64 E.n, .string E.s] 324)
      have hBA := below1 w1 (.cells #[.int .u8 E.k, .int .i64 E.n, .string E.s] 324)
      have hBwA := hBw1.trans (hBA.mono hBw1.size)
      have hplA := hpl1.kept (hBA.block _ hpl1.lt)
      have hrowA := row_below hrow1 hBA
      have hszA : w.heap.size + 1 ≤ (w1.alloc (.cells #[.int .u8 E.k, .int .i64 E.n, .string E.s] 324)).heap.size := by have := HE.out.siz; have := hB1.size; simp; omega
      obtain ⟨⟨x0, x1, x2⟩, -⟩ := cell_row3P hnew
      have hlk := hplA.look h.str HK.out.2.2.1 HK.out.2.2.2.2 (W := w1.alloc (.cells #[.int .u8 E.k, .int .i64 E.n, .string E.s] 324)) rfl
      rw [hE] at hlk
      unfold Ess.V at hlk
      obtain ⟨hol, hoe⟩ := each_len HE.out.each
      obtain ⟨q5, c5, hs5, -, hq5, hvt5⟩ := vals_of_row hrowA
      subst hs5
      have hjb : 2 * j ≤ 65536 := by have := HI.out; omega
      have HJ : Hid _ := And.intro hol (And.intro hoe hjb)
      have hHE : Hid _ := HE.out.each
      clear hol hoe hjb HE hpl1 hrow1 hnew
      cases r with
      | none =>
        simp only [Option.getD_none, Option.isSome_none, show ((0 : Nat) : Int) = 0 from rfl] at hlk
        obtain ⟨w2, hup, hpl2, hg2⟩ := hplA.put (x := ⟨0, 0⟩) h.str HK.out.2.2.1 HK.out.2.2.2.2 HJ.out.2.1 (by have := HJ.out.2.2; omega) (by have := HJ.out.1; have := HJ.out.2.2; omega) (W := w1.alloc (.cells #[.int .u8 E.k, .int .i64 E.n, .string E.s] 324)) rfl
        rw [hE] at hup
        unfold Ess.V at hup
        have hB2 : Below w.heap.size w w2 := grown_below hg2 hBwA (Nat.le_refl _)
        have hrow2 : w2.ownsRow (w.heap.size + 1) 27 2 (.slice q5 o.length c5) o.length (vcells o) := row_kept hrowA (fun g e => hg2.block g (hrowA.lt g e).2 (fun e2 => by have := (hrowA.lt g e).1; cases e2; omega))
        have hnew2 := heap_alloc_new w2 (.cells #[.int .u8 k.k, .int .i64 k.n, .int .u8 0, .int .i64 0] 27)
        have hBn := below1 w2 (.cells #[.int .u8 k.k, .int .i64 k.n, .int .u8 0, .int .i64 0] 27)
        have hrow2n := row_below hrow2 hBn
        have hszn : w.heap.size + 1 ≤ (w2.alloc (.cells #[.int .u8 k.k, .int .i64 k.n, .int .u8 0, .int .i64 0] 27)).heap.size := by have := hg2.size; simp; omega
        obtain ⟨⟨g0, g1⟩, -⟩ := HC.out w2 hB2
        obtain ⟨g5, d5, w5, hrun, hown5, hB5⟩ := app2 (w := w2.alloc (.cells #[.int .u8 k.k, .int .i64 k.n, .int .u8 0, .int .i64 0] 27)) (base := w.heap.size + 1) (B := w2.heap.size) (l := o) (more := [k, ⟨0, 0⟩]) hszn hrow2n (by have := HJ.out.1; have := HJ.out.2.2; omega) (one_vals2 hnew2) (by simp) (by simp)
        simp only [List.length_cons, List.length_nil, Nat.zero_add, Nat.reduceAdd] at hrun hown5
        have hBn5 : Below w.heap.size w w5 := (hB2.trans (hBn.mono hB2.size)).trans (hB5.mono (by omega))
        have hpl5 := hpl2.kept ((hB5.block w.heap.size (by omega)).trans (hBn.block _ hpl2.lt))
        obtain ⟨-, h0, h1⟩ := HC.out w5 hBn5
        obtain ⟨⟨a0, ha0⟩, ⟨a1, ha1⟩, hfz⟩ := row_two hown5 (j := o.length + 1) (by omega)
        have f0 := hfz ((o.length + 1) * 2)
        have f1 := hfz ((o.length + 1) * 2 + 1)
        have hput := row_put hown5 (j := o.length + 1) (by simp) x
        have hfin : OnceW w S l (j + 1) (o ++ [k, x]) (.slice (some ⟨g5, 0, none⟩) (o.length + 2) d5) ((w5.setCell ⟨g5, (o.length + 1) * 2, none⟩ (.int .u8 x.k)).setCell ⟨g5, (o.length + 1) * 2 + 1, none⟩ (.int .i64 x.n)) := by
          have hlst : (o ++ [k, (⟨0, 0⟩ : Vl)]).set (o.length + 1) x = o ++ [k, x] := by rw [List.set_append_right _ _ (by omega)]; simp
          rw [hlst] at hput
          have hg5 := hown5.lt g5 rfl
          have hkeep : ((w5.setCell ⟨g5, (o.length + 1) * 2, none⟩ (.int .u8 x.k)).setCell ⟨g5, (o.length + 1) * 2 + 1, none⟩ (.int .i64 x.n)).heap[w.heap.size]? = w5.heap[w.heap.size]? := by
            rw [heap_setCell_other _ ⟨g5, (o.length + 1) * 2 + 1, none⟩ _ _ (by show w.heap.size ≠ g5; omega), heap_setCell_other _ ⟨g5, (o.length + 1) * 2, none⟩ _ _ (by show w.heap.size ≠ g5; omega)]
          have hpl6 := (hpl5.kept hkeep).set HJ.out.2.1 x
          rw [hlst] at hpl6
          refine ⟨⟨o, none, k, x, hHE.out, by rw [← HI.out]; exact HK.out.1, by rw [← HI.out]; exact HK.out.2.1, HK.out.2.2.2.2, rfl⟩, by simpa using hput, hpl6, below_set (below_set hBn5 (by omega) _) (by omega) _, ?_⟩
          have := hg5.2
          simp
          omega
        have HF : Hid _ := hfin
        have hob : (o.length : Int) ≤ 65536 := by have := HJ.out.1; have := HJ.out.2.2; omega
        clear hfin hput hpl5 hown5 hB5 hBn5 hrow2n hrow2 hB2 hg2 hpl2 hplA hrowA hBwA hBw1 hHE hvt5
        go_wp2_with (first
          | (at_builtin; refine wpList_append_run rfl (.tmp 37) (.tmp 43) 47 rfl _ _ (.slice (some ⟨g5, 0, none⟩) (o.length + 2) d5) w5 rfl rfl hrun ?_))
        go_roundw
        case rel => exact ⟨j + 1, I + 2, o ++ [k, x], by simp, hid (by have := HI.out; omega), by omega, HF⟩
        case measure => simp [intOf]; omega
      | some i0 =>
        simp only [Option.getD_some, Option.isSome_some] at hlk
        have hi0 := keyAt_lt HK.out.2.2.2.2 HJ.out.2.1
        have hne0 : 0 < o.length := by omega
        obtain ⟨g5, hg5e⟩ : ∃ g5, q5 = some ⟨g5, 0, none⟩ := by
          obtain ⟨p5, c6, e6, -, hp5, -⟩ := own_slice hrowA
          obtain ⟨g5, hg5⟩ := hp5 hne0
          cases e6
          exact ⟨g5, hg5⟩
        subst hg5e
        obtain ⟨-, h0, h1⟩ := HC.out (w1.alloc (.cells #[.int .u8 E.k, .int .i64 E.n, .string E.s] 324)) hBwA
        obtain ⟨⟨a0, ha0⟩, ⟨a1, ha1⟩, hfz⟩ := row_two hrowA (j := i0 + 1) hi0.1
        have f0 := hfz ((i0 + 1) * 2)
        have f1 := hfz ((i0 + 1) * 2 + 1)
        have hput := row_put hrowA (j := i0 + 1) hi0.1 x
        have hfin : OnceW w S l (j + 1) (o.set (i0 + 1) x) (.slice (some ⟨g5, 0, none⟩) o.length c5) (((w1.alloc (.cells #[.int .u8 E.k, .int .i64 E.n, .string E.s] 324)).setCell ⟨g5, (i0 + 1) * 2, none⟩ (.int .u8 x.k)).setCell ⟨g5, (i0 + 1) * 2 + 1, none⟩ (.int .i64 x.n)) := by
          have hg5 := hrowA.lt g5 rfl
          have hkeep : (((w1.alloc (.cells #[.int .u8 E.k, .int .i64 E.n, .string E.s] 324)).setCell ⟨g5, (i0 + 1) * 2, none⟩ (.int .u8 x.k)).setCell ⟨g5, (i0 + 1) * 2 + 1, none⟩ (.int .i64 x.n)).heap[w.heap.size]? = (w1.alloc (.cells #[.int .u8 E.k, .int .i64 E.n, .string E.s] 324)).heap[w.heap.size]? := by
            rw [heap_setCell_other _ ⟨g5, (i0 + 1) * 2 + 1, none⟩ _ _ (by show w.heap.size ≠ g5; omega), heap_setCell_other _ ⟨g5, (i0 + 1) * 2, none⟩ _ _ (by show w.heap.size ≠ g5; omega)]
          have hpl6 := (hplA.kept hkeep).set hi0.2 x
          refine ⟨⟨o, some i0, k, x, hHE.out, by rw [← HI.out]; exact HK.out.1, by rw [← HI.out]; exact HK.out.2.1, HK.out.2.2.2.2, rfl⟩, by simpa using hput, hpl6.more (by omega), below_set (below_set hBwA (by omega) _) (by omega) _, ?_⟩
          have := hg5.2
          simp at this ⊢
          omega
        have HF : Hid _ := hfin
        have hob : (o.length : Int) ≤ 65536 := by have := HJ.out.1; have := HJ.out.2.2; omega
        have hib : (i0 : Int) + 1 < (o.length : Int) := by omega
        clear hfin hput hplA hrowA hBwA hBw1 hHE hvt5 hi0 hne0
        go_wp2_with fail
        go_roundw
        case rel => exact ⟨j + 1, I + 2, o.set (i0 + 1) x, by simp, hid (by have := HI.out; omega), by omega, HF⟩
        case measure => simp [intOf]; omega
    · have hIn' : ¬ ((I : Int) < (l.length : Int)) := by omega
      have hj : j = l.length / 2 := by have := HI.out; have := HO.out.2.1; omega
      have e := each_one HE.out.each (hj ▸ HO.out.1)
      subst e
      have hrow := HE.out.row
      go_wp2_with fail
      go_ret
      exact ⟨_, rfl, row_mono2 hrow (by omega), hB⟩

end Go.Proofs.YtgokofomoachaaaGreatDoor

namespace Go.Proofs.YtgokofomoachaaaGreatDoor
set_option linter.unusedVariables false
set_option linter.unusedSimpArgs false
open Go.RowKit

variable {w : World}

/-- A map as an object. -/
def mapM (out : List Vl) (n : Nat) : Om := ⟨5, ⟨#[]⟩, out, (n : Int), 0⟩

set_option maxRecDepth 20000 in
set_option maxHeartbeats 2000000 in
theorem Map_odd {p : Option Addr} {S : List Om} (c : Nat) {l : List Vl} {q : Option Addr} (cq : Nat) (hl : l.length ≤ 65536) (hodd : l.length % 2 = 1) {d : Dd} (hd : d = thrD tKind) :
    Calls Tryz.prog 73 #[.slice p S.length c, .slice q l.length cq] w (DeedV w d) := by
  have hB := below1 w (.cells #[.string ⟨#[]⟩, .int .i64 0, .int .u8 0, .int .i64 0, .int .u8 0, .string ⟨#[]⟩, .slice none 0 0, .int .i64 0, .int .i64 0, .int .i64 0, .int .i64 0, .slice none 0 0, .int .i64 0] 100)
  have hb := heap_alloc_new w (.cells #[.string ⟨#[]⟩, .int .i64 0, .int .u8 0, .int .i64 0, .int .u8 0, .string ⟨#[]⟩, .slice none 0 0, .int .i64 0, .int .i64 0, .int .i64 0, .int .i64 0, .slice none 0 0, .int .i64 0] 100)
  have l0 := (Array.getElem?_eq_some_iff.1 hb).1
  have H1 := throwsD hd (w.alloc (.cells #[.string ⟨#[]⟩, .int .i64 0, .int .u8 0, .int .i64 0, .int .u8 0, .string ⟨#[]⟩, .slice none 0 0, .int .i64 0, .int .i64 0, .int .i64 0, .int .i64 0, .slice none 0 0, .int .i64 0] 100))
  unfold tKind at H1
  have hrem : ((l.length : Int) % 2 == 0) = false := by
    have : ¬ ((l.length : Int) % 2 = 0) := by omega
    simpa using this
  have hrem2 : ¬ ((l.length : Int) % 2 = 0) := by omega
  clear hd hodd
  go_enter Tryz.func73, Tryz.ntmps73
  go_wp2_with (first
    | (go_at_call 154; (with_reducible refine H1.mono ?_); clear H1; rintro e w1 ⟨q9, c_, q2, rfl, h1, h2, hB1⟩; have hr := (hB1.block _ l0).trans hb; obtain ⟨⟨z0, z1, z2, z3, z4, z5, z6, z7, z8, z9, z10, z11, z12⟩, y0, y1, y2, y3, y4, y5, y6, y7, y8, y9, y10, y11, y12⟩ := cell_row13 hr))
  refine bodyPost_ret (results_cell_row (by rfl) _ _ w.heap.size 100 _ _ _ (by rfl) (set13_row hr) Tryz.underlying100 (by rfl) infoDeed) (by rfl) ?_
  have hBB := hB.trans (hB1.mono hB.size)
  have hBF := below_set13 hBB (g := w.heap.size) (Nat.le_refl _) (.string d.t) (.int .i64 d.n) (.int .u8 d.v.k) (.int .i64 d.v.n) (.int .u8 d.o.k) (.string d.o.s) (.slice q9 d.o.l.length c_) (.int .i64 d.o.room) (.int .i64 d.o.fn) (.int .i64 d.of_) (.int .i64 d.at_) (.slice q2 d.l2.length d.l2.length) (.int .i64 d.r2)
  refine ⟨q9, c_, q2, rfl, ?_, ?_, hBF⟩
  · exact h1.1.1.kept_at (fun ad ea => by
      obtain ⟨cs, hc⟩ := h1.1.2 ad ea
      have hne : ad.block ≠ w.heap.size := fun e => by rw [e, hr] at hc; cases hc
      exact set13_other _ _ _ _ _ _ _ _ _ _ _ _ _ hne)
  · exact h2.1.kept_at (fun ad ea => by
      obtain ⟨cs, hc⟩ := h2.2 ad ea
      have hne : ad.block ≠ w.heap.size := fun e => by rw [e, hr] at hc; cases hc
      exact set13_other _ _ _ _ _ _ _ _ _ _ _ _ _ hne)

set_option maxRecDepth 20000 in
set_option maxHeartbeats 2000000 in
theorem Map_pl {p : Option Addr} {S : List Om} (h : Ask w p S) (c : Nat) {l : List Vl} {q : Option Addr} (cq : Nat) (hv : Vals w q l) (hl : l.length ≤ 65536) (hev : l.length % 2 = 0) (hfit : ∀ v ∈ l, v.fits) (hfi : fineP S l) {out : List Vl} (ho : EachN S l (l.length / 2) out) {d : Dd} (hd : d = makesD (mapM out l.length)) :
    Calls Tryz.prog 73 #[.slice p S.length c, .slice q l.length cq] w (DeedV w d) := by
  have hB := below1 w (.cells #[.string ⟨#[]⟩, .int .i64 0, .int .u8 0, .int .i64 0, .int .u8 0, .string ⟨#[]⟩, .slice none 0 0, .int .i64 0, .int .i64 0, .int .i64 0, .int .i64 0, .slice none 0 0, .int .i64 0] 100)
  have hb := heap_alloc_new w (.cells #[.string ⟨#[]⟩, .int .i64 0, .int .u8 0, .int .i64 0, .int .u8 0, .string ⟨#[]⟩, .slice none 0 0, .int .i64 0, .int .i64 0, .int .i64 0, .int .i64 0, .slice none 0 0, .int .i64 0] 100)
  have HA := anyCell_in cq (hv.below hB) (by omega) false ⟨(fun e => by cases e), (fun ⟨v, hv, h⟩ => ((hfi v hv).1 h).elim)⟩
  have HE := fun (W : World) (hBw : Below w.heap.size w W) => eachKeyOnce_in (h.below hBw) c cq (hv.below hBw) hl hev hfit (fun v hm => sameOk_of (hfi v hm).2.1) ho
  have hrem : ((l.length : Int) % 2 == 0) = true := by
    have : ((l.length : Int) % 2 = 0) := by omega
    simpa using this
  have hrem2 : ((l.length : Int) % 2 = 0) := by omega
  have hl' : ¬ ((131072 : Int) < (l.length : Int)) := by omega
  have hol := (each_len ho).1
  have HL : Hid (out.length ≤ 65536) := hid (by omega)
  have HD : Hid _ := hd
  clear hd hfit hfi ho hev hol hv
  go_enter Tryz.func73, Tryz.ntmps73
  go_wp2_with (first
    | (go_at_call 174; (with_reducible refine HA.mono ?_); clear HA; rintro e w0 ⟨rfl, hB0⟩; have hBw := hB.trans (hB0.mono hB.size); have hb' := (hB0.block _ (Array.getElem?_eq_some_iff.1 hb).1).trans hb; have HE1 := HE w0 hBw)
    | (go_at_call 182; (with_reducible refine HE1.mono ?_); clear HE1 HE; rintro e w1 ⟨v5, rfl, hrow, hB1⟩; refine halt_here ?_))
  unfold Halted
  have hBw1 := hBw.trans (hB1.mono hBw.size)
  have hb1 := (hB1.block _ (Array.getElem?_eq_some_iff.1 hb').1).trans hb'
  obtain ⟨q5, c5, hv5, -, hq5, hvt⟩ := vals_of_row hrow
  subst hv5
  have HK := mk_in (w := w1) (mapM out l.length) (q := q5) c5 hvt.1 hq5 (by show out.length ≤ 100000; have := HL.out; omega) (by show (0 : Nat) ≤ 1048576; omega) (by show (l.length : Int) ≤ 1099511627776; omega) (by simp [mapM]) (by simp [mapM])
  simp only [show (mapM out l.length).k = 5 from rfl, show (mapM out l.length).s = ⟨#[]⟩ from rfl, show (mapM out l.length).l = out from rfl, show (mapM out l.length).room = (l.length : Int) from rfl, show (mapM out l.length).fn = 0 from rfl, show ((5 : Nat) : Int) = 5 from rfl] at HK
  have HV : Hid _ := And.intro hvt hrow
  clear hvt hrow
  go_wp2_with (first
    | (go_at_call 180; (with_reducible refine HK.mono ?_); clear HK; rintro e w2 ⟨rfl, hB2⟩; have hr := (hB2.block _ (Array.getElem?_eq_some_iff.1 hb1).1).trans hb1; obtain ⟨⟨z0, z1, z2, z3, z4, z5, z6, z7, z8, z9, z10, z11, z12⟩, y0, y1, y2, y3, y4, y5, y6, y7, y8, y9, y10, y11, y12⟩ := cell_row13 hr))
  refine bodyPost_ret (results_cell_row (by rfl) _ _ w.heap.size 100 _ _ _ (by rfl) (set13_row hr) Tryz.underlying100 (by rfl) infoDeed) (by rfl) ?_
  have hBB : Below w.heap.size w w2 := hBw1.trans (hB2.mono hBw1.size)
  have hBF := below_set13 hBB (g := w.heap.size) (Nat.le_refl _) (.string ⟨#[]⟩) (.int .i64 (wordsO (mapM out l.length) : Nat)) (.int .u8 0) (.int .i64 0) (.int .u8 5) (.string ⟨#[]⟩) (.slice q5 out.length c5) (.int .i64 (l.length : Int)) (.int .i64 0) (.int .i64 0) (.int .i64 0) (.slice none 0 0) (.int .i64 0)
  rw [HD.out]
  have hvt2 := HV.out.1.below hB2
  refine ⟨q5, c5, none, rfl, ?_, (fun j v hj => by simp [makesD] at hj), hBF⟩
  exact hvt2.1.kept_at (fun ad ea => by
    obtain ⟨cs, hc⟩ := hvt2.2 ad ea
    have hne : ad.block ≠ w.heap.size := fun e => by rw [e, hr] at hc; cases hc
    exact set13_other _ _ _ _ _ _ _ _ _ _ _ _ _ hne)

/-- What Map comes to. -/
def MapR (S : List Om) (l : List Vl) (d : Dv) : Prop := (¬ (fineP S l ∧ l.length % 2 = 0) ∧ d = refD S) ∨ (fineP S l ∧ l.length % 2 = 0 ∧ ∃ out, EachN S l (l.length / 2) out ∧ d = ⟨S ++ [mapM out l.length], ⟨5, (S.length : Int) + 1⟩, ⟨#[]⟩, (wordsO (mapM out l.length) : Nat)⟩)

theorem mapR_ex (S : List Om) (l : List Vl) : ∃ d, MapR S l d := by
  by_cases hh : fineP S l ∧ l.length % 2 = 0
  · obtain ⟨out, ho⟩ := each_ex (S := S) (l := l) (l.length / 2) (by omega)
    exact ⟨_, .inr ⟨hh.1, hh.2, out, ho, rfl⟩⟩
  · exact ⟨_, .inl ⟨hh, rfl⟩⟩

theorem Map_in {p : Option Addr} {S : List Om} (h : Ask w p S) (c : Nat) {l : List Vl} {q : Option Addr} (cq : Nat) (hv : Vals w q l) (hq : q = none → cq = 0) (hfit : ∀ v ∈ l, v.fits) (hl : l.length ≤ 65536) (hc : l.length ≤ cq) (hcm : cq ≤ maxLen) (hsum : S.length + 1 + sumL S + l.length ≤ 1048576) (d : Dv) (hd : MapR S l d) :
    Calls Tryz.prog 30 #[.slice p S.length c, .slice q l.length cq] w (DidR w d.S d.v d.t d.n) := by
  refine pMap_in h c cq hv hq hfit hl hc hcm hsum ?_
  by_cases hf : fineP S l
  · refine .inr ⟨hf, ?_⟩
    by_cases he : l.length % 2 = 0
    · rcases hd with ⟨hn, -⟩ | ⟨-, -, out, ho, rfl⟩
      · exact (hn ⟨hf, he⟩).elim
      · exact ⟨makesD (mapM out l.length), DoneR.new (d := makesD (mapM out l.length)) (by simp [makesD, mapM]) rfl (by show out.length ≤ 1000000; have := (each_len ho).1; omega) (by show (0 : Nat) ≤ 1048576; omega), fun W hB => Map_pl (h.below hB) c cq (hv.below hB) hl he hfit hf ho rfl⟩
    · rcases hd with ⟨-, rfl⟩ | ⟨-, h2, -⟩
      · exact ⟨thrD tKind, DoneR.old (d := thrD tKind) rfl rfl, fun W hB => Map_odd c cq hl (by omega) rfl⟩
      · exact (he h2).elim
  · rcases hd with ⟨-, rfl⟩ | ⟨h1, -⟩
    · exact .inl ⟨hf, rfl⟩
    · exact (hf h1).elim

end Go.Proofs.YtgokofomoachaaaGreatDoor
