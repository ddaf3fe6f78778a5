/- Stores of one's own: objects in a row, each with a row of values of its own. -/
import Derived.Test.YtgokofomoachaaaGreatDoorShTold
import Derived.Test.YtgokofomoachaaaGreatDoorShLead
namespace Go.Proofs.YtgokofomoachaaaGreatDoor
set_option linter.unusedVariables false
set_option linter.unusedSimpArgs false
open Go.RowKit

variable {w : World}

/-- An object, with where its list lies. -/
structure Po where
  o : Om
  lv : Value

def pcell (x : Po) : List Value := [.int .u8 x.o.k, .string x.o.s, x.lv, .int .i64 x.o.room, .int .i64 x.o.fn]

def pcells : List Po → List Value
  | [] => []
  | x :: r => pcell x ++ pcells r

theorem pcells_len : ∀ (l : List Po), (pcells l).length = l.length * 5
  | [] => rfl
  | v :: r => by simp [pcells, pcell, pcells_len r]; omega

theorem pcells_append : ∀ (l r : List Po), pcells (l ++ r) = pcells l ++ pcells r
  | [], _ => rfl
  | v :: l, r => by simp [pcells, pcells_append l r]

theorem pcells_get : ∀ (l : List Po) (j : Nat) (x : Po), l[j]? = some x → ∀ i, i < 5 → (pcells l)[j * 5 + i]? = (pcell x)[i]?
  | [], j, x, h => by simp at h
  | u :: r, 0, x, h => by
    simp at h; subst h
    intro i hi
    simp only [pcells]
    rw [List.getElem?_append_left (by simp [pcell]; omega)]
    congr 1; omega
  | u :: r, j + 1, x, h => by
    intro i hi
    have := pcells_get r j x (by simpa using h) i hi
    rw [← this]
    simp only [pcells]
    rw [List.getElem?_append_right (by simp [pcell]; omega)]
    congr 1
    simp [pcell]; omega

theorem pcells_at : ∀ (l : List Po) (j : Nat) (u : Value), (pcells l)[j]? = some u → ∃ i x, l[i]? = some x ∧ ∃ d, d < 5 ∧ j = i * 5 + d ∧ (pcell x)[d]? = some u := by
  intro l j u h
  have hl := (List.getElem?_eq_some_iff.1 h).1
  rw [pcells_len] at hl
  have hi : j / 5 < l.length := by omega
  obtain ⟨x, hx⟩ : ∃ x, l[j / 5]? = some x := ⟨l[j / 5], by simp⟩
  have := pcells_get l (j / 5) x hx (j % 5) (by omega)
  rw [show j / 5 * 5 + j % 5 = j by omega, h] at this
  exact ⟨j / 5, x, hx, j % 5, by omega, by omega, this.symm⟩

/-- A list's value is a slice. -/
def Po.sl (x : Po) : Prop := ∃ q c, x.lv = .slice q x.o.l.length c

theorem pcells_one {l : List Po} (h : ∀ x ∈ l, x.sl) : ∀ u ∈ pcells l, u.oneCell' = true := by
  intro u hu
  obtain ⟨j, hj⟩ := List.getElem?_of_mem hu
  obtain ⟨i, x, hx, d, hd, -, he⟩ := pcells_at l j u hj
  obtain ⟨q, c, hq⟩ := h x (List.mem_of_getElem? hx)
  simp only [pcell, hq] at he
  match d, hd, he with
  | 0, _, he => simp at he; subst he; rfl
  | 1, _, he => simp at he; subst he; rfl
  | 2, _, he => simp at he; subst he; rfl
  | 3, _, he => simp at he; subst he; rfl
  | 4, _, he => simp at he; subst he; rfl

/-- A store that came in, object by object. -/
theorem IsSt.pos {p : Option Addr} {S : List Om} (hs : IsSt w p S) : ∃ ts : List Po, ts.map Po.o = S ∧ (∀ x ∈ ts, ∃ q c, x.lv = .slice q x.o.l.length c ∧ Vals w q x.o.l ∧ (q = none → c = 0)) ∧
    ∀ j u, (pcells ts)[j]? = some u → ∃ b0 off, p = some ⟨b0, off, none⟩ ∧ w.cell? ⟨b0, off + j, none⟩ = some u := by
  obtain ⟨lv, hlen, hlv⟩ := list_of (P := fun j (v : Value) => ∃ o, S[j]? = some o ∧ ∃ b0 off : Nat, p = some ⟨b0, off, none⟩ ∧ w.cell? ⟨b0, off + j * 5, none⟩ = some (.int .u8 o.k) ∧ w.cell? ⟨b0, off + j * 5 + 1, none⟩ = some (.string o.s) ∧ w.cell? ⟨b0, off + j * 5 + 2, none⟩ = some v ∧ (∃ q c, v = .slice q o.l.length c ∧ Vals w q o.l ∧ (q = none → c = 0)) ∧ w.cell? ⟨b0, off + j * 5 + 3, none⟩ = some (.int .i64 o.room) ∧ w.cell? ⟨b0, off + j * 5 + 4, none⟩ = some (.int .i64 o.fn)) S.length (fun j hj => by
    obtain ⟨o, ho⟩ : ∃ o, S[j]? = some o := ⟨S[j], by simp⟩
    obtain ⟨b0, off, e, h1, h2, ⟨q, c, h3, hv, hq⟩, h4, h5⟩ := hs j o ho
    exact ⟨_, o, ho, b0, off, e, h1, h2, h3, ⟨q, c, rfl, hv, hq⟩, h4, h5⟩)
  have hz : ∀ (j : Nat) (x : Po), (List.zipWith Po.mk S lv)[j]? = some x → S[j]? = some x.o ∧ lv[j]? = some x.lv := fun j x hx => by
    rw [List.getElem?_zipWith] at hx
    cases h1 : S[j]? with
    | none => rw [h1] at hx; simp at hx
    | some o =>
      cases h2 : lv[j]? with
      | none => rw [h1, h2] at hx; simp at hx
      | some v => rw [h1, h2] at hx; simp at hx; subst hx; simp
  refine ⟨List.zipWith Po.mk S lv, ?_, ?_, ?_⟩
  · apply List.ext_getElem?
    intro j
    rw [List.getElem?_map, List.getElem?_zipWith]
    by_cases hj : j < S.length
    · obtain ⟨o, ho⟩ : ∃ o, S[j]? = some o := ⟨S[j], by simp⟩
      obtain ⟨v, hv⟩ : ∃ v, lv[j]? = some v := ⟨lv[j]'(by omega), by simp⟩
      rw [ho, hv]; rfl
    · have : S[j]? = none := by simp; omega
      rw [this]; rfl
  · intro x hx
    obtain ⟨j, hj⟩ := List.getElem?_of_mem hx
    obtain ⟨h1, h2⟩ := hz j x hj
    obtain ⟨o, ho, b0, off, e, -, -, -, h3, -⟩ := hlv j _ h2
    rw [h1] at ho; cases ho
    exact h3
  · intro j u hu
    obtain ⟨i, x, hx, d, hd, rfl, he⟩ := pcells_at _ j u hu
    obtain ⟨h1, h2⟩ := hz i x hx
    obtain ⟨o, ho, b0, off, e, c0, c1, c2, -, c3, c4⟩ := hlv i _ h2
    rw [h1] at ho; cases ho
    refine ⟨b0, off, e, ?_⟩
    match d, hd, he with
    | 0, _, he => simp [pcell] at he; subst he; exact c0
    | 1, _, he => simp [pcell] at he; subst he; exact c1
    | 2, _, he => simp [pcell] at he; subst he; exact c2
    | 3, _, he => simp [pcell] at he; subst he; exact c3
    | 4, _, he => simp [pcell] at he; subst he; exact c4

/-- A store of one's own: from a block on. -/
structure OwnSt (base : Nat) (v : Value) (ts : List Po) (w : World) : Prop where
  row : w.ownsRow base 96 5 v ts.length (pcells ts)
  lst : ∀ x ∈ ts, w.ownsRow base 27 2 x.lv x.o.l.length (vcells x.o.l)
  one : ∀ (i j : Nat) (x y : Po) (k : Nat), ts[i]? = some x → ts[j]? = some y → x.lv.ownBlock = some k → y.lv.ownBlock = some k → i = j

theorem OwnSt.kept {base : Nat} {v : Value} {ts : List Po} (h : OwnSt base v ts w) {w' : World} (hk : ∀ k, base ≤ k → k < w.heap.size → w'.heap[k]? = w.heap[k]?) : OwnSt base v ts w' :=
  ⟨row_kept h.row (fun k e => hk k (h.row.lt k e).1 (h.row.lt k e).2), fun x hx => row_kept (h.lst x hx) (fun k e => hk k ((h.lst x hx).lt k e).1 ((h.lst x hx).lt k e).2), h.one⟩

theorem OwnSt.below {base : Nat} {v : Value} {ts : List Po} (h : OwnSt base v ts w) {w' : World} (hB : Below w.heap.size w w') : OwnSt base v ts w' := h.kept (fun k _ hk => hB.block k hk)

theorem OwnSt.mono {base base' : Nat} {v : Value} {ts : List Po} (h : OwnSt base v ts w) (hb : base' ≤ base) : OwnSt base' v ts w :=
  ⟨row_mono2 h.row hb, fun x hx => row_mono2 (h.lst x hx) hb, h.one⟩

theorem own_slice {base e s n : Nat} {v : Value} {xs : List Value} (h : w.ownsRow base e s v n xs) : ∃ p c, v = .slice p n c ∧ (p = none → c = 0) ∧ (0 < n → ∃ g, p = some ⟨g, 0, none⟩) ∧ (∀ a, p = some a → ∃ g, a = ⟨g, 0, none⟩ ∧ v.ownBlock = some g) := by
  rcases h.2 with ⟨hv, h0⟩ | ⟨g, cap, cur, rfl, _⟩
  · subst h0; exact ⟨none, 0, hv, (fun _ => rfl), (fun h => by omega), (fun a e => by cases e)⟩
  · exact ⟨_, cap, rfl, (fun e => by cases e), (fun _ => ⟨g, rfl⟩), (fun a e => by cases e; exact ⟨g, rfl, rfl⟩)⟩

theorem own_valsP {base : Nat} {v : Value} {l : List Vl} (h : w.ownsRow base 27 2 v l.length (vcells l)) : ∃ q c, v = .slice q l.length c ∧ Vals w q l ∧ (q = none → c = 0) := by
  rcases h.2 with ⟨hv, h0⟩ | ⟨g, cap, cur, rfl, _⟩
  · have : l = [] := List.eq_nil_of_length_eq_zero h0
    subst this
    exact ⟨none, 0, hv, (fun j v hj => by simp at hj), fun _ => rfl⟩
  · exact ⟨_, cap, rfl, (fun j v hj => ⟨g, 0, rfl, by simpa using (row_vals h rfl hj).1, by simpa using (row_vals h rfl hj).2⟩), fun e => by cases e⟩

theorem OwnSt.isSt {base : Nat} {v : Value} {ts : List Po} (h : OwnSt base v ts w) : ∃ p c, v = .slice p (ts.map Po.o).length c ∧ IsSt w p (ts.map Po.o) ∧ (p = none → c = 0) := by
  obtain ⟨p, c, hv, hp, hg, -⟩ := own_slice h.row
  refine ⟨p, c, by simpa using hv, ?_, hp⟩
  intro j o hj
  rw [List.getElem?_map] at hj
  cases hx : ts[j]? with
  | none => rw [hx] at hj; simp at hj
  | some x =>
    rw [hx] at hj; simp at hj; subst hj
    have hlt := (List.getElem?_eq_some_iff.1 hx).1
    obtain ⟨g, rfl⟩ := hg (by omega)
    subst hv
    obtain ⟨q, cq, hq, hvq, hqn⟩ := own_valsP (h.lst x (List.mem_of_getElem? hx))
    have hgt := pcells_get ts j x hx
    refine ⟨g, 0, rfl, ?_, ?_, ⟨q, cq, ?_, hvq, hqn⟩, ?_, ?_⟩
    · rw [h.row.cellAt _ (by omega)]; have := hgt 0 (by omega); simpa [pcell] using this
    · rw [h.row.cellAt _ (by omega), Nat.zero_add, hgt 1 (by omega)]; rfl
    · rw [h.row.cellAt _ (by omega), Nat.zero_add, hgt 2 (by omega)]; simp [pcell, hq]
    · rw [h.row.cellAt _ (by omega), Nat.zero_add, hgt 3 (by omega)]; rfl
    · rw [h.row.cellAt _ (by omega), Nat.zero_add, hgt 4 (by omega)]; rfl

theorem infoO5 : (Tryz.prog.info? 96).map (fun i => (i.zero, i.size, i.bytes)) = some (some (.agg #[.int .u8 0, .string ⟨#[]⟩, .slice none 0 0, .int .i64 0, .int .i64 0]), 5, 64) := by kernel_rfl

end Go.Proofs.YtgokofomoachaaaGreatDoor
