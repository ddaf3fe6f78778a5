/- The program's tree of handlers in memory. -/
import Derived.Test.YtnekcomkochmjaaGreatDoorVbWalk
import Derived.Deep.RegionLaw
import Derived.Deep.AppendLies
import Derived.Lib.MinMax
import Derived.Laws.AppendOwnNone
import Derived.Lib.SliceRun
namespace Go.Proofs.YtnekcomkochmjaaGreatDoor
set_option linter.unusedVariables false
set_option linter.unusedSimpArgs false
open Go.RowKit

variable {w : World}

def gcells : List Int → List Value → List Value
  | d :: ds, v :: vs => .int .i64 d :: v :: gcells ds vs
  | _, _ => []

theorem gcells_len : ∀ {ds : List Int} {vs : List Value}, vs.length = ds.length → (gcells ds vs).length = ds.length * 2
  | [], [], _ => rfl
  | [], v :: vs, h => by simp at h
  | d :: ds, [], h => by simp at h
  | d :: ds, v :: vs, h => by
    have := gcells_len (ds := ds) (vs := vs) (by simpa using h)
    simp [gcells, this]; omega

theorem gcells_deep : ∀ {ds : List Int} {vs : List Value} {i : Nat} {d : Int}, vs.length = ds.length → ds[i]? = some d → (gcells ds vs)[i * 2]? = some (.int .i64 d)
  | [], vs, i, d, _, h => by simp at h
  | x :: ds, [], i, d, h, _ => by simp at h
  | x :: ds, v :: vs, 0, d, _, h => by simp at h; subst h; rfl
  | x :: ds, v :: vs, i + 1, d, hl, h => by
    have := gcells_deep (ds := ds) (vs := vs) (i := i) (d := d) (by simpa using hl) (by simpa using h)
    rw [show (i + 1) * 2 = i * 2 + 1 + 1 by omega]
    simpa [gcells] using this

theorem gcells_val : ∀ {ds : List Int} {vs : List Value} {i : Nat} {u : Value}, vs.length = ds.length → vs[i]? = some u → (gcells ds vs)[i * 2 + 1]? = some u
  | ds, [], i, d, _, h => by simp at h
  | [], v :: vs, i, d, h, _ => by simp at h
  | x :: ds, v :: vs, 0, d, _, h => by simp at h; subst h; rfl
  | x :: ds, v :: vs, i + 1, d, hl, h => by
    have := gcells_val (ds := ds) (vs := vs) (i := i) (u := d) (by simpa using hl) (by simpa using h)
    rw [show (i + 1) * 2 + 1 = i * 2 + 1 + 1 + 1 by omega]
    simpa [gcells] using this

theorem gcells_setd : ∀ {ds : List Int} {vs : List Value} {i : Nat} {d : Int}, vs.length = ds.length → (gcells ds vs).set (i * 2) (.int .i64 d) = gcells (ds.set i d) vs
  | [], [], i, d, _ => rfl
  | [], v :: vs, i, d, h => by simp at h
  | x :: ds, [], i, d, h => by simp at h
  | x :: ds, v :: vs, 0, d, _ => rfl
  | x :: ds, v :: vs, i + 1, d, hl => by
    have := gcells_setd (ds := ds) (vs := vs) (i := i) (d := d) (by simpa using hl)
    rw [show (i + 1) * 2 = i * 2 + 1 + 1 by omega]
    simp [gcells, this]

theorem gcells_setv : ∀ {ds : List Int} {vs : List Value} {i : Nat} {u : Value}, vs.length = ds.length → (gcells ds vs).set (i * 2 + 1) u = gcells ds (vs.set i u)
  | [], [], i, d, _ => rfl
  | [], v :: vs, i, d, h => by simp at h
  | x :: ds, [], i, d, h => by simp at h
  | x :: ds, v :: vs, 0, d, _ => rfl
  | x :: ds, v :: vs, i + 1, d, hl => by
    have := gcells_setv (ds := ds) (vs := vs) (i := i) (u := d) (by simpa using hl)
    rw [show (i + 1) * 2 + 1 = i * 2 + 1 + 1 + 1 by omega]
    simp [gcells, this]

def nv (m : Nat) : Value := .int .i64 m

/-- The tree in memory. -/
structure Gd (W : World) (base gg : Nat) (ks : List Kn) (vs : List Value) : Prop where
  gb : W.heap[gg]? = some (.cells (gcells (ks.map Kn.deep) vs).toArray 164 (0, 0))
  len : vs.length = ks.length
  row : ∀ (i : Nat) (v : Value), vs[i]? = some v → W.ownsRow base 3 1 v (kn ks i).hs.length ((kn ks i).hs.map nv)
  ap : ∀ (i j : Nat) (u v : Value) (g : Nat), vs[i]? = some u → vs[j]? = some v → u.ownBlock = some g → v.ownBlock = some g → i = j
  bs : base ≤ gg
  nil : ∀ (i : Nat) (v : Value), vs[i]? = some v → (kn ks i).hs = [] → v = .slice none 0 0

theorem Gd.lt {W : World} {base gg : Nat} {ks : List Kn} {vs : List Value} (h : Gd W base gg ks vs) : gg < W.heap.size := (Array.getElem?_eq_some_iff.1 h.gb).1

theorem Gd.ne {W : World} {base gg : Nat} {ks : List Kn} {vs : List Value} (h : Gd W base gg ks vs) {i : Nat} {v : Value} (hv : vs[i]? = some v) : v.ownBlock ≠ some gg := by
  intro e
  obtain ⟨cur, hc⟩ := row_obj (h.row i v hv) e
  have := h.gb
  rw [hc] at this
  simp at this

theorem kn_at {ks : List Kn} {i : Nat} (hi : i < ks.length) : ks[i]? = some (kn ks i) := by
  unfold kn
  rw [List.getD_eq_getElem?_getD]; simp [hi]

theorem Gd.at {W : World} {base gg : Nat} {ks : List Kn} {vs : List Value} (h : Gd W base gg ks vs) {i : Nat} (hi : i < ks.length) : ∃ v, vs[i]? = some v ∧ W.cell? ⟨gg, i * 2, none⟩ = some (.int .i64 (kn ks i).deep) ∧ W.cell? ⟨gg, i * 2 + 1, none⟩ = some v ∧ (∀ j, W.frozen? ⟨gg, j, none⟩ = false) := by
  obtain ⟨v, hv⟩ : ∃ v, vs[i]? = some v := ⟨vs[i]'(by rw [h.len]; exact hi), by simp [h.len, hi]⟩
  have hl : vs.length = (ks.map Kn.deep).length := by simp [h.len]
  refine ⟨v, hv, ?_, ?_, fun j => frozen_of_row W gg j _ _ h.gb⟩
  · rw [cell_of_row W gg _ _ _ _ h.gb]
    have := gcells_deep (i := i) (d := (kn ks i).deep) hl (by simp [kn_at hi])
    simpa using this
  · rw [cell_of_row W gg _ _ _ _ h.gb]
    have := gcells_val (i := i) hl hv
    simpa using this

theorem Gd.kept {W W' : World} {base gg : Nat} {ks : List Kn} {vs : List Value} (h : Gd W base gg ks vs) (h1 : W'.heap[gg]? = W.heap[gg]?) (h2 : ∀ v ∈ vs, ∀ g, v.ownBlock = some g → W'.heap[g]? = W.heap[g]?) : Gd W' base gg ks vs :=
  ⟨h1.trans h.gb, h.len, fun i v hv => row_kept (h.row i v hv) (fun g e => h2 v (List.mem_of_getElem? hv) g e), h.ap, h.bs, h.nil⟩

theorem Gd.below {W W' : World} {base gg : Nat} {ks : List Kn} {vs : List Value} (h : Gd W base gg ks vs) (hB : Below W.heap.size W W') : Gd W' base gg ks vs :=
  h.kept (hB.block _ h.lt) (fun v hv g e => by
    obtain ⟨i, hi⟩ := List.getElem?_of_mem hv
    exact hB.block _ ((h.row i v hi).lt g e).2)

/-- What a step with the tree leaves. -/
structure Gf (gg : Nat) (vs vs' : List Value) (w w' : World) : Prop where
  os : w'.os = w.os
  tape : w'.tape = w.tape
  output : w'.output = w.output
  size : w.heap.size ≤ w'.heap.size
  block : ∀ k, k < w.heap.size → k ≠ gg → (∀ v ∈ vs, v.ownBlock ≠ some k) → w'.heap[k]? = w.heap[k]?
  new : ∀ v' ∈ vs', ∀ g, v'.ownBlock = some g → (∃ v ∈ vs, v.ownBlock = some g) ∨ w.heap.size ≤ g

theorem Gf.refl (gg : Nat) (vs : List Value) (w : World) : Gf gg vs vs w w := ⟨rfl, rfl, rfl, Nat.le_refl _, fun _ _ _ _ => rfl, fun v hv g e => .inl ⟨v, hv, e⟩⟩

theorem Gf.of_below {gg : Nat} {vs : List Value} {a b : World} (h : Below a.heap.size a b) : Gf gg vs vs a b := ⟨h.os, h.tape, h.output, h.size, fun k hk _ _ => h.block k hk, fun v hv g e => .inl ⟨v, hv, e⟩⟩

theorem Gf.trans {gg : Nat} {x y z : List Value} {a b c : World} (h : Gf gg x y a b) (k : Gf gg y z b c) : Gf gg x z a c := by
  refine ⟨k.os.trans h.os, k.tape.trans h.tape, k.output.trans h.output, Nat.le_trans h.size k.size, fun i hi h1 h2 => ?_, fun v hv g hg => ?_⟩
  · refine (k.block i (Nat.lt_of_lt_of_le hi h.size) h1 (fun u hu e => ?_)).trans (h.block i hi h1 h2)
    rcases h.new u hu i e with ⟨v, hv, e⟩ | e
    · exact h2 v hv e
    · omega
  · rcases k.new v hv g hg with ⟨u, hu, e⟩ | e
    · exact h.new u hu g e
    · exact .inr (Nat.le_trans h.size e)

theorem Gf.below {gg base : Nat} {vs vs' : List Value} {a b : World} (h : Gf gg vs vs' a b) (h1 : base ≤ gg) (h3 : ∀ v ∈ vs, ∀ g, v.ownBlock = some g → base ≤ g) (h4 : base ≤ a.heap.size) : Below base a b :=
  ⟨h.os, h.tape, h.output, h.size, fun k hk => h.block k (by omega) (by omega) (fun v hv e => by have := h3 v hv k e; omega)⟩

theorem Gd.setd {base gg : Nat} {ks : List Kn} {vs : List Value} (h : Gd w base gg ks vs) {i : Nat} (hi : i < ks.length) (d : Int) : Gd (w.setCell ⟨gg, i * 2, none⟩ (.int .i64 d)) base gg (ks.set i ⟨d, (kn ks i).hs⟩) vs := by
  have hl : vs.length = (ks.map Kn.deep).length := by simp [h.len]
  have ekn : ∀ j, (kn (ks.set i ⟨d, (kn ks i).hs⟩) j).hs = (kn ks j).hs := by
    intro j
    rw [kn_set]
    split
    · rename_i q; rw [q.1]
    · rfl
  refine ⟨?_, by simp [h.len], fun j v hv => ?_, h.ap, h.bs, fun j v hv => by rw [ekn]; exact h.nil j v hv⟩
  · have := heap_setCell_same w gg (i * 2) _ _ (.int .i64 d) h.gb
    rw [this]
    simp only [List.setIfInBounds_toArray, gcells_setd hl, List.map_set]
  · rw [ekn]
    exact row_kept (h.row j v hv) (fun g e => heap_setCell_other w ⟨gg, i * 2, none⟩ g _ (fun q => h.ne hv (by rw [e]; exact congrArg some q)))

/-- One handler more at a knot. -/
theorem Gd.grow {base gg g' cap : Nat} {ks : List Kn} {vs : List Value} {v : Value} {w1 : World} {o : Obj} (h : Gd w base gg ks vs) {i m : Nat} (hi : i < ks.length) (hv : vs[i]? = some v)
    (hown1 : w1.ownsRow base 3 1 (.slice (some ⟨g', 0, none⟩) ((kn ks i).hs.length + 1) cap) ((kn ks i).hs.length + 1) ((kn ks i).hs.map nv ++ [.int .i64 m])) (hgrow : (w.alloc o).grownBy w1 v.ownBlock) (hat : v.ownBlock = some g' ∨ g' = w.heap.size + 1) :
    Gd (w1.setCell ⟨gg, i * 2 + 1, none⟩ (.slice (some ⟨g', 0, none⟩) ((kn ks i).hs.length + 1) cap)) base gg (ks.set i ⟨(kn ks i).deep, (kn ks i).hs ++ [m]⟩) (vs.set i (.slice (some ⟨g', 0, none⟩) ((kn ks i).hs.length + 1) cap)) ∧ Gf gg vs (vs.set i (.slice (some ⟨g', 0, none⟩) ((kn ks i).hs.length + 1) cap)) w (w1.setCell ⟨gg, i * 2 + 1, none⟩ (.slice (some ⟨g', 0, none⟩) ((kn ks i).hs.length + 1) cap)) := by
  have hl : vs.length = (ks.map Kn.deep).length := by simp [h.len]
  have hlt := h.lt
  have key : ∀ k, k < w.heap.size → v.ownBlock ≠ some k → w1.heap[k]? = w.heap[k]? := fun k hk hv => (hgrow.block _ (by simp; omega) (fun e => hv e.symm)).trans (Below.heap_alloc _ _ _ hk)
  have hsz : w.heap.size ≤ w1.heap.size := by have := hgrow.size; simp at this; omega
  have hgb : g' ≠ gg := by
    rcases hat with e | e
    · intro e2; exact h.ne hv (by rw [e, e2])
    · omega
  have hil : i < vs.length := by rw [h.len]; exact hi
  refine ⟨⟨?_, by simp [h.len], fun j u hu => ?_, fun a b x y g ha hb e1 e2 => ?_, h.bs, fun j u hu he => ?_⟩, ?_⟩
  · have := heap_setCell_same w1 gg (i * 2 + 1) _ _ (.slice (some ⟨g', 0, none⟩) ((kn ks i).hs.length + 1) cap) ((key gg hlt (h.ne hv)).trans h.gb)
    rw [this]
    have e : (ks.set i ⟨(kn ks i).deep, (kn ks i).hs ++ [m]⟩).map Kn.deep = ks.map Kn.deep := by
      rw [List.map_set]
      refine List.ext_getElem? (fun j => ?_)
      rw [List.getElem?_set]
      split
      · rename_i q
        subst q
        have e0 : ks[i] = kn ks i := by have := kn_at hi; simpa [hi] using this
        simp [hi, e0]
      · rfl
    rw [e, List.setIfInBounds_toArray, gcells_setv hl]
  · rw [List.getElem?_set] at hu
    rw [kn_set]
    by_cases q : i = j
    · subst q
      simp [hil] at hu
      subst hu
      simp only [true_and, hi, if_true]
      have := row_kept (w' := w1.setCell ⟨gg, i * 2 + 1, none⟩ (.slice (some ⟨g', 0, none⟩) ((kn ks i).hs.length + 1) cap)) hown1 (fun k e => by simp [Value.ownBlock] at e; subst e; exact heap_setCell_other w1 ⟨gg, i * 2 + 1, none⟩ g' _ hgb)
      simpa [nv] using this
    · simp [q] at hu
      rw [if_neg (fun e => q e.1.symm)]
      have hr := h.row j u hu
      refine row_kept hr (fun k e => (heap_setCell_other w1 ⟨gg, i * 2 + 1, none⟩ k _ (fun e2 => h.ne hu (by rw [e]; exact congrArg some e2))).trans (key k (hr.lt k e).2 (fun e2 => q (h.ap i j v u k hv hu e2 e))))
  · rw [List.getElem?_set] at ha hb
    by_cases qa : i = a
    · by_cases qb : i = b
      · omega
      · exfalso
        simp [qa] at ha
        rw [← qa] at ha
        simp [hil] at ha
        simp [qb] at hb
        subst ha
        simp [Value.ownBlock] at e1
        subst e1
        rcases hat with e | e
        · exact qb (h.ap i b v y g' hv hb e e2)
        · have := ((h.row b y hb).lt g' e2).2; omega
    · by_cases qb : i = b
      · exfalso
        simp [qb] at hb
        rw [← qb] at hb
        simp [hil] at hb
        simp [qa] at ha
        subst hb
        simp [Value.ownBlock] at e2
        subst e2
        rcases hat with e | e
        · exact qa (h.ap i a v x g' hv ha e e1)
        · have := ((h.row a x ha).lt g' e1).2; omega
      · simp [qa] at ha
        simp [qb] at hb
        exact h.ap a b x y g ha hb e1 e2
  · rw [List.getElem?_set] at hu
    rw [kn_set] at he
    by_cases q : i = j
    · subst q
      simp [hi] at he
    · simp [q] at hu
      rw [if_neg (fun e => q e.1.symm)] at he
      exact h.nil j u hu he
  · refine ⟨hgrow.os, hgrow.tape, hgrow.output, by simpa [World.setCell] using hsz, fun k hk h1 h2 => (heap_setCell_other w1 ⟨gg, i * 2 + 1, none⟩ k _ h1).trans (key k hk (h2 v (List.mem_of_getElem? hv))), fun u hu g hg => ?_⟩
    rcases List.mem_or_eq_of_mem_set hu with e | e
    · exact .inl ⟨u, e, hg⟩
    · subst e
      simp [Value.ownBlock] at hg
      subst hg
      rcases hat with e | e
      · exact .inl ⟨v, List.mem_of_getElem? hv, e⟩
      · exact .inr (by omega)

set_option maxRecDepth 20000 in
set_option maxHeartbeats 2000000 in
theorem add_in {base gg : Nat} {ks : List Kn} {vs : List Value} (h : Gd w base gg ks vs) {i : Nat} (hi : i < ks.length) (hh : (kn ks i).hs.length ≤ 1099511627776) (m : Nat) (d : Int) :
    Calls Tryz.prog 89 #[.pointer (some ⟨gg, i * 2, none⟩), .int .i64 m, .int .i64 d] w fun e w' => e = .returned (.tuple #[]) ∧ ∃ vs', Gd w' base gg (add1 m d ks i) vs' ∧ Gf gg vs vs' w w' := by
  obtain ⟨i1, hj0, hy0, hy1, hy2⟩ := info_parts infoInts
  obtain ⟨v, hv, c0, c1, fz⟩ := h.at hi
  have f0 := fz (i * 2)
  have HH : Hid _ := h
  obtain ⟨D, hD⟩ : ∃ D, max (kn ks i).deep d = D := ⟨_, rfl⟩
  have h1 := h.setd hi D
  have hi1 : i < (ks.set i ⟨D, (kn ks i).hs⟩).length := by simpa using hi
  obtain ⟨v', hv', d0, d1, fy⟩ := h1.at hi1
  obtain rfl : v = v' := by rw [hv] at hv'; exact Option.some.inj hv'
  have g1 := fy (i * 2 + 1)
  have hkd : (kn (ks.set i ⟨D, (kn ks i).hs⟩) i) = ⟨D, (kn ks i).hs⟩ := by rw [kn_set, if_pos ⟨rfl, hi⟩]
  have hro := h1.row i v hv
  rw [hkd] at hro
  simp only at hro
  have hlt : gg < w.heap.size := h.lt
  have hnv := h1.ne hv
  have hbs := h1.bs
  have H1 : Hid (Gd (w.setCell ⟨gg, i * 2, none⟩ (.int .i64 D)) base gg (ks.set i ⟨D, (kn ks i).hs⟩) vs ∧ kn (ks.set i ⟨D, (kn ks i).hs⟩) i = ⟨D, (kn ks i).hs⟩ ∧ i < (ks.set i ⟨D, (kn ks i).hs⟩).length ∧ max (kn ks i).deep d = D ∧ Gf gg vs vs w (w.setCell ⟨gg, i * 2, none⟩ (.int .i64 D))) :=
    ⟨h1, hkd, hi1, hD, ⟨rfl, rfl, rfl, by simp [World.setCell], fun k hk h1 h2 => heap_setCell_other w ⟨gg, i * 2, none⟩ k _ h1, fun v hv g e => .inl ⟨v, hv, e⟩⟩⟩
  obtain ⟨W, hW⟩ : ∃ W, w.setCell ⟨gg, i * 2, none⟩ (.int .i64 D) = W := ⟨_, rfl⟩
  have hsz : w.heap.size = W.heap.size := by rw [← hW]; simp [World.setCell]
  rw [hW] at d1 g1 hro H1
  obtain ⟨n, hn⟩ : ∃ n, (kn ks i).hs.length = n := ⟨_, rfl⟩
  have HN0 : Hid _ := hn
  rw [hn] at hro hh
  generalize hxs : (kn ks i).hs.map nv = xs at hro
  have HXS : Hid _ := hxs
  clear h h1 fz fy hv' hn hxs hkd hi1 d0
  go_enter Tryz.func89, Tryz.ntmps89
  go_wp2_with (first
    | (at_builtin; refine wpList_append_lies _ rfl _ _ 40 rfl base 3 i1 (.int .i64 0) 1 8 Tryz.underlying40 hj0 hy0 hy1 hy2 rfl (by decide) v n xs rfl (hro.alloc _) ⟨W.heap.size, 0, none⟩ 1 1 [.int .i64 m] rfl rfl (World.news_of_block (cs := #[.int .i64 m]) (t := 3) (fr := (0, 0)) (heap_alloc_new W _)) (by simp [Value.oneCell']) (by omega) (by unfold maxLen; omega) (by omega) (by simp; omega) (W.heap.size + 1) (by simp) ?_; intro g4 c4 w4 hown4 hgrow4 hat4 hlt4; have G2 : w4.frozen? ⟨gg, i * 2 + 1, none⟩ = false := (hgrow4.frozen_far _ (by simp; omega) hnv.symm).trans ((World.frozen?_of_block (a := ⟨gg, i * 2 + 1, none⟩) (Below.heap_alloc W _ gg (by omega))).trans g1); have G4 : w4.cell? ⟨gg, i * 2 + 1, none⟩ = some v := (hgrow4.cell_far _ (by simp; omega) hnv.symm).trans ((World.cell?_of_block (a := ⟨gg, i * 2 + 1, none⟩) (Below.heap_alloc W _ gg (by omega))).trans d1)))
  go_end0
  obtain ⟨q1, q2, q3, q4, q5⟩ := H1.out
  have hn := HN0.out
  have hxs := HXS.out
  subst hn hxs
  obtain ⟨r1, r2⟩ := q1.grow (m := m) q3 hv (by rw [q2]; exact hown4) hgrow4 hat4
  rw [q2] at r1 r2
  simp only [List.set_set] at r1
  refine ⟨rfl, _, ?_, q5.trans r2⟩
  unfold add1
  rw [q4]
  exact r1

end Go.Proofs.YtnekcomkochmjaaGreatDoor

namespace Go.Proofs.YtnekcomkochmjaaGreatDoor
set_option linter.unusedVariables false
set_option linter.unusedSimpArgs false
open Go.RowKit

variable {w : World}

theorem nilEq (a : Option Addr) (n c : Nat) (W : World) : Sem.run Tryz.prog (binOp .eql 122 (.slice a n c) (.slice none 0 0)) W = .ok (.bool a.isNone) W :=
  Lib.run_eql_slice_nil W 122 164 a n c 0 0 Tryz.underlying122

theorem deepF_step (ks : List Kn) {n : Nat} (hn : 0 < n) (d : Int) : deepF ks (path n n) d = deepF ks (path (n / 2) (n / 2)) (max d (kn ks n).deep) := by
  rw [path_self hn]; rfl

set_option maxRecDepth 20000 in
set_option maxHeartbeats 2000000 in
theorem deepest_in {base gg leaf : Nat} {ks : List Kn} {vs : List Value} (c : Nat) (h : Gd w base gg ks vs) (hl : ks.length = 2 * leaf) (hl2 : leaf ≤ 16384) {pc : Nat} (hp : pc < leaf) :
    Calls Tryz.prog 56 #[.slice (some ⟨gg, 0, none⟩) ks.length c, .int .i64 pc] w fun e w' => e = .returned (.int .i64 (kn ks (leaf + pc)).deep) ∧ w' = w := by
  have hq : ((ks.length : Nat) : Int) / 2 = (leaf : Int) := by omega
  have hk32 : ks.length ≤ 32768 := by omega
  have hs : leaf + pc < ks.length := by omega
  obtain ⟨v, hv, c0, c1, -⟩ := h.at hs
  have hs' : (leaf : Int) + (pc : Int) < (ks.length : Int) := by omega
  have hnil := nilEq (some ⟨gg, 0, none⟩) ks.length c
  clear hl h
  go_enter Tryz.func56, Tryz.ntmps56
  go_wp2
  go_ret
  exact ⟨rfl, rfl⟩

theorem deepest_nil (pc : Int) : Calls Tryz.prog 56 #[.slice none 0 0, .int .i64 pc] w fun e w' => e = .returned (.int .i64 0) ∧ w' = w := by
  have hnil := nilEq none 0 0
  go_enter Tryz.func56, Tryz.ntmps56
  go_wp2
  go_ret
  exact ⟨rfl, rfl⟩

theorem news_nil (pc : Int) : Calls Tryz.prog 57 #[.slice none 0 0, .int .i64 pc] w fun e w' => e = .returned (.slice none 0 0) ∧ w' = w := by
  have hnil := nilEq none 0 0
  go_enter Tryz.func57, Tryz.ntmps57
  go_wp2
  go_ret
  exact ⟨rfl, rfl⟩

theorem path_len : ∀ {j k x : Nat}, x < 2 ^ j → (path k x).length ≤ j
  | j, 0, x, _ => by simp [path]
  | 0, k + 1, x, h => by
    have : x = 0 := by simpa using h
    subst this; simp [path]
  | j + 1, k + 1, x, h => by
    unfold path
    split
    · have := path_len (j := j) (k := k) (x := x / 2) (by rw [Nat.pow_succ] at h; omega)
      simp; exact this
    · simp

theorem newsF_step (ks : List Kn) {n : Nat} (hn : 0 < n) : newsF ks (path n n) = (kn ks n).hs ++ newsF ks (path (n / 2) (n / 2)) := by
  rw [path_self hn]; rfl

theorem clrF_step (ks : List Kn) {n : Nat} (hn : 0 < n) : clrF ks (path n n) = clrF (clr1 ks n) (path (n / 2) (n / 2)) := by
  rw [path_self hn]; rfl

theorem half_not_mem {n : Nat} (hn : 0 < n) : n ∉ path (n / 2) (n / 2) := by
  intro h
  have := path_le h
  omega

theorem newsF_len (ks : List Kn) {b : Nat} (hb : ∀ y, (kn ks y).hs.length ≤ b) : ∀ l : List Nat, (newsF ks l).length ≤ l.length * b
  | [] => by simp [newsF]
  | y :: l => by
    have h1 := newsF_len ks hb l
    have h2 := hb y
    have : newsF ks (y :: l) = (kn ks y).hs ++ newsF ks l := rfl
    rw [this, List.length_append, List.length_cons, Nat.succ_mul]
    omega

theorem Gd.clear {base gg : Nat} {ks : List Kn} {vs : List Value} (h : Gd w base gg ks vs) {i : Nat} (hi : i < ks.length) : Gd (w.setCell ⟨gg, i * 2 + 1, none⟩ (.slice none 0 0)) base gg (clr1 ks i) (vs.set i (.slice none 0 0)) ∧ Gf gg vs (vs.set i (.slice none 0 0)) w (w.setCell ⟨gg, i * 2 + 1, none⟩ (.slice none 0 0)) := by
  have hl : vs.length = (ks.map Kn.deep).length := by simp [h.len]
  have hil : i < vs.length := by rw [h.len]; exact hi
  have ekn := fun j => clr1_kn ks i j
  refine ⟨⟨?_, by simp [h.len, clr1], fun j u hu => ?_, fun a b x y g ha hb e1 e2 => ?_, h.bs, fun j u hu he => ?_⟩, ?_⟩
  · have := heap_setCell_same w gg (i * 2 + 1) _ _ (.slice none 0 0) h.gb
    rw [this]
    have e : (clr1 ks i).map Kn.deep = ks.map Kn.deep := by
      unfold clr1
      rw [List.map_set]
      refine List.ext_getElem? (fun j => ?_)
      rw [List.getElem?_set]
      split
      · rename_i q
        subst q
        have e0 : ks[i] = kn ks i := by have := kn_at hi; simpa [hi] using this
        simp [hi, e0]
      · rfl
    rw [e, List.setIfInBounds_toArray, gcells_setv hl]
  · rw [List.getElem?_set] at hu
    rw [ekn]
    by_cases q : i = j
    · subst q
      simp [hil] at hu
      subst hu
      simp only [if_true]
      exact World.ownsRow_nil _ _ _ _
    · simp [q] at hu
      rw [if_neg (fun e => q e.symm)]
      have hr := h.row j u hu
      exact row_kept hr (fun k e => heap_setCell_other w ⟨gg, i * 2 + 1, none⟩ k _ (fun e2 => h.ne hu (by rw [e]; exact congrArg some e2)))
  · rw [List.getElem?_set] at ha hb
    by_cases qa : i = a
    · exfalso
      simp [qa] at ha
      rw [← qa] at ha
      simp [hil] at ha
      subst ha
      simp [Value.ownBlock] at e1
    · by_cases qb : i = b
      · exfalso
        simp [qb] at hb
        rw [← qb] at hb
        simp [hil] at hb
        subst hb
        simp [Value.ownBlock] at e2
      · simp [qa] at ha
        simp [qb] at hb
        exact h.ap a b x y g ha hb e1 e2
  · rw [List.getElem?_set] at hu
    rw [ekn] at he
    by_cases q : i = j
    · subst q
      simp [hil] at hu
      exact hu.symm
    · simp [q] at hu
      rw [if_neg (fun e => q e.symm)] at he
      exact h.nil j u hu he
  · refine ⟨rfl, rfl, rfl, by simp [World.setCell], fun k hk h1 h2 => heap_setCell_other w ⟨gg, i * 2 + 1, none⟩ k _ h1, fun u hu g hg => ?_⟩
    rcases List.mem_or_eq_of_mem_set hu with e | e
    · exact .inl ⟨u, e, hg⟩
    · subst e
      simp [Value.ownBlock] at hg

/-- While news are gathered. -/
structure Nw (w0 W : World) (base gg : Nat) (vs0 : List Value) (n : Nat) (v : Value) (L0 : List Nat) (ks : List Kn) (vs : List Value) (L : List Nat) (KS : List Kn) : Prop where
  gd : Gd W base gg ks vs
  row : W.ownsRow w0.heap.size 3 1 v L0.length (L0.map nv)
  news : L0 ++ newsF ks (path n n) = L
  clr : clrF ks (path n n) = KS
  gf : Gf gg vs0 vs w0 W
  sub : ∀ x ∈ vs, ∀ g, x.ownBlock = some g → ∃ y ∈ vs0, y.ownBlock = some g

theorem Nw.next {w0 W W' : World} {base gg n : Nat} {vs0 vs : List Value} {v v' : Value} {L0 L : List Nat} {ks KS : List Kn} (h : Nw w0 W base gg vs0 n v L0 ks vs L KS) (hn : 0 < n) (hi : n < ks.length)
    (hrow : W'.ownsRow w0.heap.size 3 1 v' (L0 ++ (kn ks n).hs).length ((L0 ++ (kn ks n).hs).map nv)) (gd : Gd W' base gg ks vs) (gf : Gf gg vs0 vs w0 W') :
    Nw w0 (W'.setCell ⟨gg, n * 2 + 1, none⟩ (.slice none 0 0)) base gg vs0 (n / 2) v' (L0 ++ (kn ks n).hs) (clr1 ks n) (vs.set n (.slice none 0 0)) L KS := by
  obtain ⟨g1, g2⟩ := gd.clear hi
  refine ⟨g1, row_kept hrow (fun k e => heap_setCell_other W' ⟨gg, n * 2 + 1, none⟩ k _ (fun e2 => ?_)), ?_, ?_, gf.trans g2, fun x hx g e => ?_⟩
  · obtain ⟨cur, hc⟩ := row_obj hrow e
    have e3 : k = gg := e2
    rw [e3, gd.gb] at hc
    simp at hc
  · rw [newsF_clr (half_not_mem hn), List.append_assoc, ← newsF_step ks hn]
    exact h.news
  · rw [← clrF_step ks hn]
    exact h.clr
  · rcases List.mem_or_eq_of_mem_set hx with q | q
    · exact h.sub x q g e
    · subst q
      simp [Value.ownBlock] at e

set_option maxRecDepth 20000 in
set_option maxHeartbeats 4000000 in
theorem news_in {base gg leaf : Nat} {ks : List Kn} {vs : List Value} (c : Nat) (h : Gd w base gg ks vs) (hl : ks.length = 2 * leaf) (hl2 : leaf ≤ 16384) {pc : Nat} (hp : pc < leaf) (hb : ∀ y, (kn ks y).hs.length ≤ 1073741824) :
    Calls Tryz.prog 57 #[.slice (some ⟨gg, 0, none⟩) ks.length c, .int .i64 pc] w fun e w' => ∃ v vs', e = .returned v ∧ w'.ownsRow w.heap.size 3 1 v (newsF ks (path (leaf + pc) (leaf + pc))).length ((newsF ks (path (leaf + pc) (leaf + pc))).map nv) ∧ Gd w' base gg (clrF ks (path (leaf + pc) (leaf + pc))) vs' ∧ Gf gg vs vs' w w' ∧ (∀ x ∈ vs', ∀ g, x.ownBlock = some g → ∃ y ∈ vs, y.ownBlock = some g) := by
  have hq : ((ks.length : Nat) : Int) / 2 = (leaf : Int) := by omega
  obtain ⟨i1, hj0, hy0, hy1, hy2⟩ := info_parts infoInts
  obtain ⟨L, hL⟩ : ∃ L, newsF ks (path (leaf + pc) (leaf + pc)) = L := ⟨_, rfl⟩
  obtain ⟨KS, hKS⟩ : ∃ KS, clrF ks (path (leaf + pc) (leaf + pc)) = KS := ⟨_, rfl⟩
  have hLl : L.length ≤ 17179869184 := by
    rw [← hL]
    have h1 := newsF_len ks hb (path (leaf + pc) (leaf + pc))
    have h2 := path_len (j := 16) (k := leaf + pc) (x := leaf + pc) (by omega)
    have h3 := Nat.mul_le_mul_right 1073741824 h2
    omega
  rw [hL, hKS]
  have nw0 : Nw w w base gg vs (leaf + pc) (.slice none 0 0) [] ks vs L KS := ⟨h, World.ownsRow_nil _ _ _ _, hL, hKS, .refl _ _ _, fun x hx g e => ⟨x, hx, e⟩⟩
  have hold : Hid (∀ y ∈ vs, ∀ g, y.ownBlock = some g → g < w.heap.size) := fun y hy g e => by
    obtain ⟨i, hi⟩ := List.getElem?_of_mem hy
    exact ((h.row i y hi).lt g e).2
  have hk32 : ks.length ≤ 32768 := by omega
  have hs : leaf + pc < ks.length := by omega
  obtain ⟨kl, hkl⟩ : ∃ kl, ks.length = kl := ⟨_, rfl⟩
  have HKL : Hid (ks.length = kl) := hkl
  rw [hkl] at hq hk32 hs ⊢
  have HL : Hid (ks.length = 2 * leaf) := hl
  have hnil := nilEq (some ⟨gg, 0, none⟩) kl c
  clear hl h hL hKS hb hkl
  go_enter Tryz.func57, Tryz.ntmps57
  go_wp2
  go_loopw [5, 6] (fun k l wr => ∃ (n : Nat) (v : Value) (L0 : List Nat) (ks' : List Kn) (vs' : List Value), k = v ∧ l = .int .i64 n ∧ n < kl ∧ ks'.length = kl ∧ Nw w wr base gg vs n v L0 ks' vs' L KS) (fun _ l _ => (intOf l).toNat)
  case atStart => exact ⟨leaf + pc, _, _, ks, vs, rfl, by simp, hs, HKL.out, nw0⟩
  case round =>
    clear nw0 hs
    obtain ⟨n, v, L0, ks', vs', rfl, rfl, hn, hkl, nw⟩ := hrel
    by_cases h0 : n = 0
    · subst h0
      have NW : Hid _ := nw
      clear nw
      go_wp2
      go_ret
      have hw := NW.out
      have e1 : L0 = L := by have := hw.news; simpa [path, newsF] using this
      have e2 : ks' = KS := by have := hw.clr; simpa [path, clrF] using this
      subst e1 e2
      exact ⟨_, vs', rfl, hw.row, hw.gd, hw.gf, hw.sub⟩
    · obtain ⟨u, hu, c0, c1, fz⟩ := nw.gd.at (i := n) (by omega)
      have f1 := fz (n * 2 + 1)
      have hn0 : 0 < (n : Int) := by omega
      have hn' : (n : Int) < (kl : Int) := by omega
      have hro := nw.row
      have hgr := nw.gd.row n u hu
      have hgn := nw.gd.nil n u hu
      have hwl := nw.gf.size
      have hlen : L0.length + (kn ks' n).hs.length ≤ 17179869184 := by
        have := nw.news
        rw [newsF_step ks' (by omega)] at this
        have := congrArg List.length this
        simp at this
        omega
      have NW : Hid _ := nw
      have HI : Hid (0 < n ∧ n < ks'.length) := ⟨by omega, by omega⟩
      have hnv := nw.gd.ne hu
      have hgl := nw.gd.lt
      have KL : Hid _ := hkl
      clear nw fz hkl
      obtain ⟨pv, cv, rfl, -, -, -⟩ := row_form hro
      by_cases he : (kn ks' n).hs = []
      · obtain rfl := hgn he
        clear hgr hgn
        go_wp2_with (first
          | (at_builtin; refine wpList_append_own_none rfl _ _ 40 rfl w.heap.size 3 i1 1 Tryz.underlying40 hj0 _ L0.length _ rfl hro rfl ?_))
        go_roundw
        case rel =>
          have hw := NW.out
          refine ⟨n / 2, _, L0 ++ (kn ks' n).hs, clr1 ks' n, vs'.set n (.slice none 0 0), rfl, by simp, by omega, by unfold clr1; rw [List.length_set]; exact KL.out, hw.next HI.out.1 HI.out.2 ?_ hw.gd hw.gf⟩
          rw [he, List.append_nil]
          exact hw.row
        case measure => simp [intOf]; omega
      · have hpos : 0 < (kn ks' n).hs.length := List.length_pos_iff.2 he
        obtain ⟨pu, cu, rfl, -, -, hpu⟩ := row_form hgr
        obtain ⟨gu, rfl⟩ := hpu hpos
        have hnews : ∀ j x, ((kn ks' n).hs.map nv)[j]? = some x → wr.cell? ((⟨gu, 0, none⟩ : Addr).add j) = some x := fun j x hx => by
          have := hgr.cells (g := gu) rfl j x hx
          simpa [Addr.add] using this
        have hone : ∀ x ∈ (kn ks' n).hs.map nv, x.oneCell' = true := fun x hx => by
          obtain ⟨m, -, rfl⟩ := List.mem_map.1 hx
          rfl
        have hlb : (Value.slice pv L0.length cv).ownBlock ≠ some gg := fun e => by
          obtain ⟨cur, hc⟩ := row_obj hro e
          rw [NW.out.gd.gb] at hc
          simp at hc
        have HHS : Hid (0 < (kn ks' n).hs.length) := hpos
        obtain ⟨hsn, hhsn⟩ : ∃ k, (kn ks' n).hs.length = k := ⟨_, rfl⟩
        have hmap : ((kn ks' n).hs.map nv).length = hsn * 1 := by simp [hhsn]
        have HSN : Hid _ := hhsn
        obtain ⟨xs, hxs⟩ : ∃ xs, (kn ks' n).hs.map nv = xs := ⟨_, rfl⟩
        have HXS : Hid _ := hxs
        rw [hxs] at hnews hone hmap
        rw [hhsn] at hpos hlen c1 hgr hu hnv
        clear hgr hgn hhsn hxs he hnv
        go_wp2_with (first
          | (at_builtin; refine wpList_append_lies _ rfl _ _ 40 rfl w.heap.size 3 i1 (.int .i64 0) 1 8 Tryz.underlying40 hj0 hy0 hy1 hy2 rfl (by decide) (.slice pv L0.length cv) L0.length (L0.map nv) rfl hro ⟨gu, 0, none⟩ hsn cu xs rfl hmap hnews hone hpos (by unfold maxLen; omega) (by omega) hwl wr.heap.size rfl ?_; intro g4 c4 w4 hown4 hgrow4 hat4 hlt4; have G2 : w4.frozen? ⟨gg, n * 2 + 1, none⟩ = false := (hgrow4.frozen_far _ hgl hlb.symm).trans f1; have G4 : w4.cell? ⟨gg, n * 2 + 1, none⟩ = some (.slice (some ⟨gu, 0, none⟩) hsn cu) := (hgrow4.cell_far _ hgl hlb.symm).trans c1))
        go_roundw
        case rel =>
          have hw := NW.out
          have key : ∀ k, k < wr.heap.size → (Value.slice pv L0.length cv).ownBlock ≠ some k → w4.heap[k]? = wr.heap[k]? := fun k hk hv => hgrow4.block _ hk (fun e => hv e.symm)
          have hold4 : ∀ x ∈ vs', ∀ g, x.ownBlock = some g → w4.heap[g]? = wr.heap[g]? := fun x hx g e => by
            obtain ⟨y, hy, e2⟩ := hw.sub x hx g e
            have hg := hold.out y hy g e2
            exact key g (by omega) (fun e3 => by have := (hro.lt g e3).1; omega)
          have gd4 := hw.gd.kept (key gg hgl hlb) hold4
          have gf4 : Gf gg vs vs' w w4 := by
            refine ⟨hgrow4.os.trans hw.gf.os, hgrow4.tape.trans hw.gf.tape, hgrow4.output.trans hw.gf.output, Nat.le_trans hwl hgrow4.size, fun k hk h1 h2 => ?_, hw.gf.new⟩
            exact (key k (by omega) (fun e3 => by have := (hro.lt k e3).1; omega)).trans (hw.gf.block k hk h1 h2)
          refine ⟨n / 2, _, L0 ++ (kn ks' n).hs, clr1 ks' n, vs'.set n (.slice none 0 0), rfl, by simp, by omega, by unfold clr1; rw [List.length_set]; exact KL.out, hw.next HI.out.1 HI.out.2 ?_ gd4 gf4⟩
          rw [List.length_append, HSN.out, List.map_append, HXS.out]
          exact hown4
        case measure => simp [intOf]; omega

end Go.Proofs.YtnekcomkochmjaaGreatDoor
