/- The program's depths: what stands while they are told. -/
import Derived.Test.YtcpnjfoblacnhaaGreatDoorVfPGuards
import Derived.Test.YtcpnjfoblacnhaaGreatDoorVfPNext
import Derived.Test.YtcpnjfoblacnhaaGreatDoorVfPRep
namespace Go.Proofs.YtcpnjfoblacnhaaGreatDoor
set_option linter.unusedVariables false
set_option linter.unusedSimpArgs false
open Go.RowKit

variable {w : World}

theorem ownsRow_mono {base base' : Nat} {e : TypeId} {k n : Nat} {v : Value} {xs : List Value} (h : w.ownsRow base e k v n xs) (hb : base' ≤ base) : w.ownsRow base' e k v n xs := by
  obtain ⟨h1, h2⟩ := h
  refine ⟨h1, ?_⟩
  rcases h2 with h2 | ⟨g, cap, cur, e, h3, h4⟩
  · exact .inl h2
  · exact .inr ⟨g, cap, cur, e, Nat.le_trans hb h3, h4⟩

theorem Gd.mono {W : World} {base base' gg : Nat} {ks : List Kn} {vs : List Value} (h : Gd W base gg ks vs) (hb : base' ≤ base) : Gd W base' gg ks vs :=
  ⟨h.gb, h.len, fun i v hv => ownsRow_mono (h.row i v hv) hb, h.ap, Nat.le_trans hb h.bs, h.nil⟩

/-- What stands while depths are told. -/
structure Ctx (w0 W : World) (bw gt ct gg : Nat) (told : List Int) (v : Value) (q : List Int) (ks : List Kn) (vs : List Value) : Prop where
  bel : Below w0.heap.size w0 W
  wk : Wk W w0.heap.size bw gt ct told v q
  gd : Gd W w0.heap.size gg ks vs
  ap : ∀ x ∈ vs, ∀ g, x.ownBlock = some g → v.ownBlock ≠ some g ∧ g ≠ gt
section

variable {w0 W W' : World} {bw gt ct gg : Nat} {told told' : List Int} {v v' : Value} {q q' : List Int} {ks ks' : List Kn} {vs vs' : List Value}

theorem Ctx.ne (h : Ctx w0 W bw gt ct gg told v q ks vs) : gg ≠ bw ∧ gg ≠ gt ∧ v.ownBlock ≠ some gg := by
  refine ⟨fun e => ?_, fun e => ?_, fun e => ?_⟩
  · have := h.gd.gb
    rw [e, h.wk.tb] at this
    simp at this
  · obtain ⟨cur, hc, _⟩ := h.wk.tr.obj
    have := h.gd.gb
    rw [e, hc] at this
    simp at this
  · obtain ⟨cur, hc⟩ := row_obj h.wk.qr e
    have := h.gd.gb
    rw [hc] at this
    simp at this

theorem Ctx.old (h : Ctx w0 W bw gt ct gg told v q ks vs) {x : Value} (hx : x ∈ vs) {g : Nat} (e : x.ownBlock = some g) : g < W.heap.size ∧ w0.heap.size ≤ g ∧ g ≠ bw := by
  obtain ⟨i, hi⟩ := List.getElem?_of_mem hx
  have hr := h.gd.row i x hi
  refine ⟨(hr.lt g e).2, (hr.lt g e).1, fun e2 => ?_⟩
  obtain ⟨cur, hc⟩ := row_obj hr e
  have := h.wk.tb
  rw [← e2, hc] at this
  simp at this

theorem Ctx.fr (h : Ctx w0 W bw gt ct gg told v q ks vs) (hf : Fr bw gt v v' W W') (hw : Wk W' w0.heap.size bw gt ct told' v' q') : Ctx w0 W' bw gt ct gg told' v' q' ks vs := by
  obtain ⟨n1, n2, n3⟩ := h.ne
  refine ⟨h.bel.trans (hf.below h.wk.bs h.wk.tr.lt.1 (fun g e => (h.wk.qr.lt g e).1) h.bel.size), hw, h.gd.kept (hf.block gg h.gd.lt n1 n2 n3) (fun x hx g e => ?_), fun x hx g e => ⟨fun e2 => ?_, (h.ap x hx g e).2⟩⟩
  · obtain ⟨o1, o2, o3⟩ := h.old hx e
    exact hf.block g o1 o3 (h.ap x hx g e).2 (h.ap x hx g e).1
  · rcases hf.new g e2 with q1 | q1
    · exact (h.ap x hx g e).1 q1
    · have := (h.old hx e).1; omega

theorem Ctx.gf (h : Ctx w0 W bw gt ct gg told v q ks vs) (hf : Gf gg vs vs' W W') (hg : Gd W' w0.heap.size gg ks' vs') (hs : ∀ x ∈ vs', ∀ g, x.ownBlock = some g → ∃ y ∈ vs, y.ownBlock = some g) : Ctx w0 W' bw gt ct gg told v q ks' vs' := by
  obtain ⟨n1, n2, n3⟩ := h.ne
  have kb := hf.block bw h.wk.lt (Ne.symm n1) (fun x hx e => (h.old hx e).2.2 rfl)
  have kt := hf.block gt h.wk.tr.lt.2 (Ne.symm n2) (fun x hx e => (h.ap x hx gt e).2 rfl)
  refine ⟨h.bel.trans (hf.below h.gd.bs (fun x hx g e => (h.old hx e).2.1) h.bel.size), ⟨kb.trans h.wk.tb, h.wk.tr.kept kt, row_kept h.wk.qr (fun g e => hf.block g (h.wk.qr.lt g e).2 (fun e2 => n3 (by rw [e, e2])) (fun x hx e2 => (h.ap x hx g e2).1 e)), h.wk.ap, h.wk.bs⟩, hg, fun x hx g e => ?_⟩
  obtain ⟨y, hy, e2⟩ := hs x hx g e
  exact h.ap y hy g e2

theorem Ctx.below (h : Ctx w0 W bw gt ct gg told v q ks vs) (hB : Below W.heap.size W W') : Ctx w0 W' bw gt ct gg told v q ks vs :=
  ⟨h.bel.trans (hB.mono h.bel.size), h.wk.kept hB, h.gd.below hB, h.ap⟩

/-- A row of one's own that is apart from the walk stays. -/
theorem row_fr {b2 : Nat} {x : Value} {n : Nat} {xs : List Value} (hr : W.ownsRow b2 3 1 x n xs) (hw : Wk W w0.heap.size bw gt ct told v q) (hf : Fr bw gt v v' W W') (hv : ∀ g, x.ownBlock = some g → v.ownBlock ≠ some g ∧ g ≠ gt) : W'.ownsRow b2 3 1 x n xs := by
  refine row_kept hr (fun g e => hf.block g (hr.lt g e).2 (fun e2 => ?_) (hv g e).2 (hv g e).1)
  obtain ⟨cur, hc⟩ := row_obj hr e
  have := hw.tb
  rw [← e2, hc] at this
  simp at this
end

/-- How many places are not taken, by what is in memory. -/
def isNeg : Value → Bool
  | .int .i64 x => decide (x < 0)
  | _ => false

def muT (gt n : Nat) (W : World) : Nat := match W.heap[gt]? with
  | some (.cells cur _ _) => (cur.toList.take n).countP isNeg
  | _ => 0

def muQ (bw : Nat) (W : World) : Nat := match W.cell? ⟨bw, 1, none⟩ with
  | some (.slice _ n _) => n
  | _ => 0

theorem mu_eq {base bw gt ct n : Nat} {told : List Int} {taken : List Bool} {v : Value} {q : List Int} (h : Wk w base bw gt ct told v q) (hq : Qi n told taken q) : muT gt n w + muQ bw w = cnt taken := by
  rw [← hq.sum]
  obtain ⟨cur, hc, _, h3⟩ := h.tr.obj
  obtain ⟨p, c, rfl, -⟩ := row_form h.qr
  unfold muT muQ unT
  rw [hc, (cell_row2 h.tb).1.2]
  simp only
  rw [← hq.tl, h3, List.countP_map]
  congr 1

/-- What depths answers. -/
def DepP (f : Fm) (base : Nat) (e : Ending) (w' : World) : Prop := match depthsP f with
  | .error pc => ∃ v, e = .returned (.tuple #[v, .int .i64 (pc : Nat)])
  | .ok told => ∃ g c, e = .returned (.tuple #[.slice (some ⟨g, 0, none⟩) told.length c, .int .i64 (-1)]) ∧ NumRow base g c told w' ∧ told.length = f.code.length

theorem DepP.bad {f : Fm} {base pc : Nat} {v : Value} {w' : World} (h : depthsP f = .error pc) : DepP f base (.returned (.tuple #[v, .int .i64 (pc : Nat)])) w' := by unfold DepP; rw [h]; exact ⟨_, rfl⟩

theorem DepP.good {f : Fm} {base g c : Nat} {told : List Int} {w' : World} (h : depthsP f = .ok told) (hr : NumRow base g c told w') (hl : told.length = f.code.length) : DepP f base (.returned (.tuple #[.slice (some ⟨g, 0, none⟩) told.length c, .int .i64 (-1)])) w' := by unfold DepP; rw [h]; exact ⟨g, c, rfl, hr, hl⟩

/-- What stands at a round's start. -/
structure Rd (w0 W : World) (bw gt ct gg : Nat) (f : Fm) (told : List Int) (taken : List Bool) (v : Value) (q : List Int) (ks : List Kn) (vs : List Value) : Prop where
  cx : Ctx w0 W bw gt ct gg told v q ks vs
  qi : Qi f.code.length told taken q
  lo : ∀ k, -1 ≤ told.getD k (-1)
  hi : ∀ k, told.getD k (-1) ≤ 257
  tree : Tree f ks told
  lens : ∀ y, (kn ks y).hs.length ≤ 524288
  run : depthsP f = runP f (cnt taken) told taken

/-- While one list of tellings is gone through. -/
structure Rs (w0 W0 W : World) (bw gt ct gg : Nat) (f : Fm) (told0 : List Int) (taken : List Bool) (v0 : Value) (l : List (Nat × Int)) (told : List Int) (v : Value) (q : List Int) (ks : List Kn) (vs : List Value) : Prop where
  cx : Ctx w0 W bw gt ct gg told v q ks vs
  qi : Qi f.code.length told taken q
  lo : ∀ k, -1 ≤ told.getD k (-1)
  fr : Fr bw gt v0 v W0 W
  tells : tellsP l told0 = some told

theorem Rs.next {w0 W0 W W' : World} {bw gt ct gg : Nat} {f : Fm} {told0 : List Int} {taken : List Bool} {v0 v : Value} {l : List (Nat × Int)} {told : List Int} {q : List Int} {ks : List Kn} {vs : List Value} (h : Rs w0 W0 W bw gt ct gg f told0 taken v0 l told v q ks vs)
    {k : Nat} {d : Int} {b : Bool} {W1 : World} (hB : Below W.heap.size W W1) (ht : TellP w0.heap.size bw gt ct f.code.length told taken v k d b W1 W') :
    (b = true ∧ ∃ told' v' q', Rs w0 W0 W' bw gt ct gg f told0 taken v0 (l ++ [(k, d)]) told' v' q' ks vs) ∨ (b = false ∧ tellsP (l ++ [(k, d)]) told0 = none ∧ ∃ told' v' q', Ctx w0 W' bw gt ct gg told' v' q' ks vs) := by
  obtain ⟨told', v', q', h1, h2, h3, h4, h5⟩ := ht
  have e : tellsP (l ++ [(k, d)]) told0 = tellP told k d := by rw [tellsP_snoc, h.tells]; rfl
  rcases h5 with ⟨hb, h5⟩ | ⟨hb, h5⟩
  · exact .inl ⟨hb, told', v', q', (h.cx.below hB).fr h2 h1, h3, h4, h.fr.trans ((Fr.of_below hB).trans h2), e.trans h5⟩
  · exact .inr ⟨hb, e.trans h5, told', v', q', (h.cx.below hB).fr h2 h1⟩

theorem Rs.ctx {w0 W0 W W' : World} {bw gt ct gg : Nat} {f : Fm} {told0 : List Int} {taken : List Bool} {v0 v : Value} {l : List (Nat × Int)} {told : List Int} {q : List Int} {ks : List Kn} {vs : List Value} (h : Rs w0 W0 W bw gt ct gg f told0 taken v0 l told v q ks vs)
    {k : Nat} {d : Int} {b : Bool} {W1 : World} (hB : Below W.heap.size W W1) (ht : TellP w0.heap.size bw gt ct f.code.length told taken v k d b W1 W') : ∃ told' v' q', Ctx w0 W' bw gt ct gg told' v' q' ks vs := by
  obtain ⟨told', v', q', h1, h2, h3, h4, h5⟩ := ht
  exact ⟨told', v', q', (h.cx.below hB).fr h2 h1⟩

theorem take_map {L : List Nat} {f : Fm} {j m A : Nat} {h : Hn} (hm : L[j]? = some m) (hh : f.hs[m]? = some h) (hA : h.at_ = (A : Int)) : (L.take (j + 1)).map (htell f) = (L.take j).map (htell f) ++ [(A, h.deep + 1)] := by
  rw [List.take_add_one, hm]
  have : htell f m = (A, h.deep + 1) := by unfold htell; rw [hh]; simp [hA]
  simp [this]

theorem take_nexts {L : List Nat} {a : Int} {j m : Nat} (hm : L[j]? = some m) : (L.take (j + 1)).map (fun q => (q, a)) = (L.take j).map (fun q => (q, a)) ++ [(m, a)] := by
  rw [List.take_add_one, hm]
  simp

theorem split_map {L : List Nat} {g : Nat → Nat × Int} (j : Nat) : L.map g = (L.take j).map g ++ (L.drop j).map g := by rw [← List.map_append, List.take_append_drop]

theorem nrow_cell {base g c n : Nat} {W : World} {L : List Nat} {j m : Nat} (h : W.ownsRow base 3 1 (.slice (some ⟨g, 0, none⟩) n c) n (L.map nv)) (hm : L[j]? = some m) : W.cell? ⟨g, j, none⟩ = some (.int .i64 m) := by
  have := h.cells (g := g) rfl j (.int .i64 m) (by rw [List.getElem?_map, hm]; rfl)
  have ea : (⟨g, 0, none⟩ : Addr).add j = ⟨g, j, none⟩ := by simp only [Addr.add]; split <;> simp_all
  rw [ea] at this
  exact this

theorem Rs.refl {w0 W : World} {bw gt ct gg : Nat} {f : Fm} {told0 told : List Int} {taken : List Bool} {v : Value} {q : List Int} {l : List (Nat × Int)} {ks : List Kn} {vs : List Value} (cx : Ctx w0 W bw gt ct gg told v q ks vs) (qi : Qi f.code.length told taken q) (lo : ∀ k, -1 ≤ told.getD k (-1)) (ht : tellsP l told0 = some told) : Rs w0 W W bw gt ct gg f told0 taken v l told v q ks vs :=
  ⟨cx, qi, lo, .of_below (Below.refl _ _), ht⟩

theorem tells_hi {l : List (Nat × Int)} {t u : List Int} (h : tellsP l t = some u) (hl : ∀ x ∈ l, x.1 < t.length ∧ 0 ≤ x.2 ∧ x.2 ≤ 256) (ht : ∀ k, t.getD k (-1) ≤ 257) : ∀ k, u.getD k (-1) ≤ 257 := by
  obtain ⟨_, h2, _, h4⟩ := (tellsP_char (fun x hx => ⟨(hl x hx).1, (hl x hx).2.1⟩)).1 h
  intro k
  by_cases e : ∃ x ∈ l, x.1 = k
  · obtain ⟨x, hx, rfl⟩ := e
    rw [h2 x hx]
    have := (hl x hx).2.2
    omega
  · rw [h4 k (fun x hx e2 => e ⟨x, hx, e2⟩)]
    exact ht k

theorem clr_hs {ks : List Kn} {b : Nat} (h : ∀ y, (kn ks y).hs.length ≤ b) (l : List Nat) : ∀ y, (kn (clrF ks l) y).hs.length ≤ b := by
  intro y
  rw [clrF_kn]
  split
  · simp
  · exact h y

theorem tells_none {a b : List (Nat × Int)} {t : List Int} (h : tellsP a t = none) : tellsP (a ++ b) t = none := by rw [tellsP_append, h]; rfl

end Go.Proofs.YtcpnjfoblacnhaaGreatDoor
