/- The program's depths: what stands while they are told. -/
import Derived.Test.YtgindgneobghaaaGreatDoorVfPGuards
import Derived.Test.YtgindgneobghaaaGreatDoorVfPNext
import Derived.Test.YtgindgneobghaaaGreatDoorVfPRep
import Derived.WalkMore
namespace Go.Proofs.YtgindgneobghaaaGreatDoor
set_option linter.unusedVariables false
set_option linter.unusedSimpArgs false
open Go.RowKit

variable {w : World}

theorem ownsRow_mono {base base' : Nat} {e : TypeId} {k n : Nat} {v : Value} {xs : List Value} (h : w.ownsRow base e k v n xs) (hb : base' ≤ base) : w.ownsRow base' e k v n xs := by
  obtain ⟨h1, h2⟩ := h
  refine ⟨h1, ?_⟩
  rcases h2 with h2 | ⟨g, cap, cur, e, h3, h4⟩
  · exact .inl h2
  · exact .inr ⟨g, cap, cur, e, Nat.le_trans hb h3, h4⟩

theorem Gd.mono {W : World} {base base' gg : Nat} {ks : List Kn} {vs : List Value} (h : Gd W base gg ks vs) (hb : base' ≤ base) : Gd W base' gg ks vs :=
  ⟨h.gb, h.len, fun i v hv => ownsRow_mono (h.row i v hv) hb, h.ap, Nat.le_trans hb h.bs, h.nil⟩

/-- What stands while depths are told. -/
structure Ctx (w0 W : World) (bw gt ct gg : Nat) (told : List Int) (v : Value) (q : List Int) (ks : List Kn) (vs : List Value) : Prop where
  bel : Below w0.heap.size w0 W
  wk : Wk W w0.heap.size bw gt ct told v q
  gd : Gd W w0.heap.size gg ks vs
  ap : ∀ x ∈ vs, ∀ g, x.ownBlock = some g → v.ownBlock ≠ some g ∧ g ≠ gt
section

variable {w0 W W' : World} {bw gt ct gg : Nat} {told told' : List Int} {v v' : Value} {q q' : List Int} {ks ks' : List Kn} {vs vs' : List Value}

theorem Ctx.ne (h : Ctx w0 W bw gt ct gg told v q ks vs) : gg ≠ bw ∧ gg ≠ gt ∧ v.ownBlock ≠ some gg := by
  refine ⟨fun e => ?_, fun e => ?_, fun e => ?_⟩
  · have := h.gd.gb
    rw [e, h.wk.tb] at this
    simp at this
  · obtain ⟨cur, hc, _⟩ := h.wk.tr.obj
    have := h.gd.gb
    rw [e, hc] at this
    simp at this
  · obtain ⟨cur, hc⟩ := row_obj h.wk.qr e
    have := h.gd.gb
    rw [hc] at this
    simp at this

theorem Ctx.old (h : Ctx w0 W bw gt ct gg told v q ks vs) {x : Value} (hx : x ∈ vs) {g : Nat} (e : x.ownBlock = some g) : g < W.heap.size ∧ w0.heap.size ≤ g ∧ g ≠ bw := by
  obtain ⟨i, hi⟩ := List.getElem?_of_mem hx
  have hr := h.gd.row i x hi
  refine ⟨(hr.lt g e).2, (hr.lt g e).1, fun e2 => ?_⟩
  obtain ⟨cur, hc⟩ := row_obj hr e
  have := h.wk.tb
  rw [← e2, hc] at this
  simp at this

theorem Ctx.fr (h : Ctx w0 W bw gt ct gg told v q ks vs) (hf : Fr bw gt v v' W W') (hw : Wk W' w0.heap.size bw gt ct told' v' q') : Ctx w0 W' bw gt ct gg told' v' q' ks vs := by
  obtain ⟨n1, n2, n3⟩ := h.ne
  refine ⟨h.bel.trans (hf.below h.wk.bs h.wk.tr.lt.1 (fun g e => (h.wk.qr.lt g e).1) h.bel.size), hw, h.gd.kept (hf.block gg h.gd.lt n1 n2 n3) (fun x hx g e => ?_), fun x hx g e => ⟨fun e2 => ?_, (h.ap x hx g e).2⟩⟩
  · obtain ⟨o1, o2, o3⟩ := h.old hx e
    exact hf.block g o1 o3 (h.ap x hx g e).2 (h.ap x hx g e).1
  · rcases hf.new g e2 with q1 | q1
    · exact (h.ap x hx g e).1 q1
    · have := (h.old hx e).1; omega

theorem Ctx.gf (h : Ctx w0 W bw gt ct gg told v q ks vs) (hf : Gf gg vs vs' W W') (hg : Gd W' w0.heap.size gg ks' vs') (hs : ∀ x ∈ vs', ∀ g, x.ownBlock = some g → ∃ y ∈ vs, y.ownBlock = some g) : Ctx w0 W' bw gt ct gg told v q ks' vs' := by
  obtain ⟨n1, n2, n3⟩ := h.ne
  have kb := hf.block bw h.wk.lt (Ne.symm n1) (fun x hx e => (h.old hx e).2.2 rfl)
  have kt := hf.block gt h.wk.tr.lt.2 (Ne.symm n2) (fun x hx e => (h.ap x hx gt e).2 rfl)
  refine ⟨h.bel.trans (hf.below h.gd.bs (fun x hx g e => (h.old hx e).2.1) h.bel.size), ⟨kb.trans h.wk.tb, h.wk.tr.kept kt, row_kept h.wk.qr (fun g e => hf.block g (h.wk.qr.lt g e).2 (fun e2 => n3 (by rw [e, e2])) (fun x hx e2 => (h.ap x hx g e2).1 e)), h.wk.ap, h.wk.bs⟩, hg, fun x hx g e => ?_⟩
  obtain ⟨y, hy, e2⟩ := hs x hx g e
  exact h.ap y hy g e2

theorem Ctx.below (h : Ctx w0 W bw gt ct gg told v q ks vs) (hB : Below W.heap.size W W') : Ctx w0 W' bw gt ct gg told v q ks vs :=
  ⟨h.bel.trans (hB.mono h.bel.size), h.wk.kept hB, h.gd.below hB, h.ap⟩

/-- A row of one's own that is apart from the walk stays. -/
theorem row_fr {b2 : Nat} {x : Value} {n : Nat} {xs : List Value} (hr : W.ownsRow b2 3 1 x n xs) (hw : Wk W w0.heap.size bw gt ct told v q) (hf : Fr bw gt v v' W W') (hv : ∀ g, x.ownBlock = some g → v.ownBlock ≠ some g ∧ g ≠ gt) : W'.ownsRow b2 3 1 x n xs := by
  refine row_kept hr (fun g e => hf.block g (hr.lt g e).2 (fun e2 => ?_) (hv g e).2 (hv g e).1)
  obtain ⟨cur, hc⟩ := row_obj hr e
  have := hw.tb
  rw [← e2, hc] at this
  simp at this
end

/-- How many places are not taken, by what is in memory. -/
def isNeg : Value → Bool
  | .int .i64 x => decide (x < 0)
  | _ => false

def muT (gt n : Nat) (W : World) : Nat := match W.heap[gt]? with
  | some (.cells cur _ _) => (cur.toList.take n).countP isNeg
  | _ => 0

def muQ (bw : Nat) (W : World) : Nat := match W.cell? ⟨bw, 1, none⟩ with
  | some (.slice _ n _) => n
  | _ => 0

theorem mu_eq {base bw gt ct n : Nat} {told : List Int} {taken : List Bool} {v : Value} {q : List Int} (h : Wk w base bw gt ct told v q) (hq : Qi n told taken q) : muT gt n w + muQ bw w = cnt taken := by
  rw [← hq.sum]
  obtain ⟨cur, hc, _, h3⟩ := h.tr.obj
  obtain ⟨p, c, rfl, -⟩ := row_form h.qr
  unfold muT muQ unT
  rw [hc, (cell_row2 h.tb).1.2]
  simp only
  rw [← hq.tl, h3, List.countP_map]
  congr 1

/-- What depths answers. -/
def DepP (f : Fm) (base : Nat) (e : Ending) (w' : World) : Prop := match depthsP f with
  | .error pc => ∃ v, e = .returned (.tuple #[v, .int .i64 (pc : Nat)])
  | .ok told => ∃ g c, e = .returned (.tuple #[.slice (some ⟨g, 0, none⟩) told.length c, .int .i64 (-1)]) ∧ NumRow base g c told w' ∧ told.length = f.code.length

theorem DepP.bad {f : Fm} {base pc : Nat} {v : Value} {w' : World} (h : depthsP f = .error pc) : DepP f base (.returned (.tuple #[v, .int .i64 (pc : Nat)])) w' := by unfold DepP; rw [h]; exact ⟨_, rfl⟩

theorem DepP.good {f : Fm} {base g c : Nat} {told : List Int} {w' : World} (h : depthsP f = .ok told) (hr : NumRow base g c told w') (hl : told.length = f.code.length) : DepP f base (.returned (.tuple #[.slice (some ⟨g, 0, none⟩) told.length c, .int .i64 (-1)])) w' := by unfold DepP; rw [h]; exact ⟨g, c, rfl, hr, hl⟩

/-- What stands at a round's start. -/
structure Rd (w0 W : World) (bw gt ct gg : Nat) (f : Fm) (told : List Int) (taken : List Bool) (v : Value) (q : List Int) (ks : List Kn) (vs : List Value) : Prop where
  cx : Ctx w0 W bw gt ct gg told v q ks vs
  qi : Qi f.code.length told taken q
  lo : ∀ k, -1 ≤ told.getD k (-1)
  hi : ∀ k, told.getD k (-1) ≤ 257
  tree : Tree f ks told
  lens : ∀ y, (kn ks y).hs.length ≤ 524288
  run : depthsP f = runP f (cnt taken) told taken

/-- While one list of tellings is gone through. -/
structure Rs (w0 W0 W : World) (bw gt ct gg : Nat) (f : Fm) (told0 : List Int) (taken : List Bool) (v0 : Value) (l : List (Nat × Int)) (told : List Int) (v : Value) (q : List Int) (ks : List Kn) (vs : List Value) : Prop where
  cx : Ctx w0 W bw gt ct gg told v q ks vs
  qi : Qi f.code.length told taken q
  lo : ∀ k, -1 ≤ told.getD k (-1)
  fr : Fr bw gt v0 v W0 W
  tells : tellsP l told0 = some told

theorem Rs.next {w0 W0 W W' : World} {bw gt ct gg : Nat} {f : Fm} {told0 : List Int} {taken : List Bool} {v0 v : Value} {l : List (Nat × Int)} {told : List Int} {q : List Int} {ks : List Kn} {vs : List Value} (h : Rs w0 W0 W bw gt ct gg f told0 taken v0 l told v q ks vs)
    {k : Nat} {d : Int} {b : Bool} {W1 : World} (hB : Below W.heap.size W W1) (ht : TellP w0.heap.size bw gt ct f.code.length told taken v k d b W1 W') :
    (b = true ∧ ∃ told' v' q', Rs w0 W0 W' bw gt ct gg f told0 taken v0 (l ++ [(k, d)]) told' v' q' ks vs) ∨ (b = false ∧ tellsP (l ++ [(k, d)]) told0 = none ∧ ∃ told' v' q', Ctx w0 W' bw gt ct gg told' v' q' ks vs) := by
  obtain ⟨told', v', q', h1, h2, h3, h4, h5⟩ := ht
  have e : tellsP (l ++ [(k, d)]) told0 = tellP told k d := by rw [tellsP_snoc, h.tells]; rfl
  rcases h5 with ⟨hb, h5⟩ | ⟨hb, h5⟩
  · exact .inl ⟨hb, told', v', q', (h.cx.below hB).fr h2 h1, h3, h4, h.fr.trans ((Fr.of_below hB).trans h2), e.trans h5⟩
  · exact .inr ⟨hb, e.trans h5, told', v', q', (h.cx.below hB).fr h2 h1⟩

theorem Rs.ctx {w0 W0 W W' : World} {bw gt ct gg : Nat} {f : Fm} {told0 : List Int} {taken : List Bool} {v0 v : Value} {l : List (Nat × Int)} {told : List Int} {q : List Int} {ks : List Kn} {vs : List Value} (h : Rs w0 W0 W bw gt ct gg f told0 taken v0 l told v q ks vs)
    {k : Nat} {d : Int} {b : Bool} {W1 : World} (hB : Below W.heap.size W W1) (ht : TellP w0.heap.size bw gt ct f.code.length told taken v k d b W1 W') : ∃ told' v' q', Ctx w0 W' bw gt ct gg told' v' q' ks vs := by
  obtain ⟨told', v', q', h1, h2, h3, h4, h5⟩ := ht
  exact ⟨told', v', q', (h.cx.below hB).fr h2 h1⟩

theorem take_map {L : List Nat} {f : Fm} {j m A : Nat} {h : Hn} (hm : L[j]? = some m) (hh : f.hs[m]? = some h) (hA : h.at_ = (A : Int)) : (L.take (j + 1)).map (htell f) = (L.take j).map (htell f) ++ [(A, h.deep + 1)] := by
  rw [List.take_add_one, hm]
  have : htell f m = (A, h.deep + 1) := by unfold htell; rw [hh]; simp [hA]
  simp [this]

theorem take_nexts {L : List Nat} {a : Int} {j m : Nat} (hm : L[j]? = some m) : (L.take (j + 1)).map (fun q => (q, a)) = (L.take j).map (fun q => (q, a)) ++ [(m, a)] := by
  rw [List.take_add_one, hm]
  simp

theorem split_map {L : List Nat} {g : Nat → Nat × Int} (j : Nat) : L.map g = (L.take j).map g ++ (L.drop j).map g := by rw [← List.map_append, List.take_append_drop]

theorem nrow_cell {base g c n : Nat} {W : World} {L : List Nat} {j m : Nat} (h : W.ownsRow base 3 1 (.slice (some ⟨g, 0, none⟩) n c) n (L.map nv)) (hm : L[j]? = some m) : W.cell? ⟨g, j, none⟩ = some (.int .i64 m) := by
  have := h.cells (g := g) rfl j (.int .i64 m) (by rw [List.getElem?_map, hm]; rfl)
  have ea : (⟨g, 0, none⟩ : Addr).add j = ⟨g, j, none⟩ := by simp only [Addr.add]; split <;> simp_all
  rw [ea] at this
  exact this

theorem Rs.refl {w0 W : World} {bw gt ct gg : Nat} {f : Fm} {told0 told : List Int} {taken : List Bool} {v : Value} {q : List Int} {l : List (Nat × Int)} {ks : List Kn} {vs : List Value} (cx : Ctx w0 W bw gt ct gg told v q ks vs) (qi : Qi f.code.length told taken q) (lo : ∀ k, -1 ≤ told.getD k (-1)) (ht : tellsP l told0 = some told) : Rs w0 W W bw gt ct gg f told0 taken v l told v q ks vs :=
  ⟨cx, qi, lo, .of_below (Below.refl _ _), ht⟩

theorem tells_hi {l : List (Nat × Int)} {t u : List Int} (h : tellsP l t = some u) (hl : ∀ x ∈ l, x.1 < t.length ∧ 0 ≤ x.2 ∧ x.2 ≤ 256) (ht : ∀ k, t.getD k (-1) ≤ 257) : ∀ k, u.getD k (-1) ≤ 257 := by
  obtain ⟨_, h2, _, h4⟩ := (tellsP_char (fun x hx => ⟨(hl x hx).1, (hl x hx).2.1⟩)).1 h
  intro k
  by_cases e : ∃ x ∈ l, x.1 = k
  · obtain ⟨x, hx, rfl⟩ := e
    rw [h2 x hx]
    have := (hl x hx).2.2
    omega
  · rw [h4 k (fun x hx e2 => e ⟨x, hx, e2⟩)]
    exact ht k

theorem clr_hs {ks : List Kn} {b : Nat} (h : ∀ y, (kn ks y).hs.length ≤ b) (l : List Nat) : ∀ y, (kn (clrF ks l) y).hs.length ≤ b := by
  intro y
  rw [clrF_kn]
  split
  · simp
  · exact h y

theorem tells_none {a b : List (Nat × Int)} {t : List Int} (h : tellsP a t = none) : tellsP (a ++ b) t = none := by rw [tellsP_append, h]; rfl

end Go.Proofs.YtgindgneobghaaaGreatDoor

namespace Go.Proofs.YtgindgneobghaaaGreatDoor
set_option linter.unusedVariables false
set_option linter.unusedSimpArgs false
open Go.RowKit

variable {w : World}

theorem ctx_begin {w1 w2 : World} {n gt ct gg b1 : Nat} {f : Fm} {ks : List Kn} {vs : List Value} (hn : n = f.code.length) (hnr : NumRow b1 gt ct (List.replicate n (-1)) w1) (hb1 : w.heap.size ≤ b1) (hB1 : Below w.heap.size w w1)
    (hgs : Gs (w1.alloc (.cells #[.slice (some ⟨gt, 0, none⟩) n ct, .slice none 0 0] 143)) w2 gg f f.hs.length ks vs) :
    Ctx w w2 w1.heap.size gt ct gg (List.replicate n (-1)) (.slice none 0 0) [] ks vs := by
  have hgl := hnr.lt
  have hb := hgs.bel.size
  simp only [World.size_alloc] at hb
  have hkb := hgs.bel.block w1.heap.size (by simp)
  have hkt := (hgs.bel.block gt (by simp; omega)).trans (Below.heap_alloc w1 _ gt hgl.2)
  refine ⟨(hB1.alloc hB1.size _).trans (hgs.bel.mono (by simp; have := hB1.size; omega)), ⟨?_, ?_, World.ownsRow_nil _ _ _ _, by simp [Value.ownBlock], hB1.size⟩, hgs.gd.mono (by simp; have := hB1.size; omega), fun x hx g e => ⟨by simp [Value.ownBlock], ?_⟩⟩
  · rw [hkb, heap_alloc_new]
    simp
  · exact ownsRow_mono (hnr.kept hkt) hb1
  · obtain ⟨i, hi⟩ := List.getElem?_of_mem hx
    have := ((hgs.gd.row i x hi).lt g e).1
    simp at this
    omega

theorem rep_lo {n : Nat} : ∀ k, -1 ≤ (List.replicate n (-1 : Int)).getD k (-1) := by
  intro k
  rw [List.getD_eq_getElem?_getD, List.getElem?_replicate]
  split <;> simp

theorem nexts_len' (i : In) (pc : Nat) : (nextsP i pc).length ≤ 2 := by
  unfold nextsP
  repeat' split
  all_goals simp

def HaltP (p : Prop) : Prop := p

theorem haltP {p : Prop} (h : HaltP p) : p := h

theorem rd_begin {w2 w3 : World} {n bw gt ct gg : Nat} {b : Bool} {f : Fm} {ks : List Kn} {vs : List Value} (hn : f.code.length = n) (hn1 : 1 ≤ n) (hok : CodeOk f) (hcx : Ctx w w2 bw gt ct gg (List.replicate n (-1)) (.slice none 0 0) [] ks vs) (hlen : ∀ y, (kn ks y).hs.length ≤ f.hs.length * 32) (hbu : Built f.code.length (f.hs.take f.hs.length) ks)
    (htl : TellP w.heap.size bw gt ct n (List.replicate n (-1)) (List.replicate n false) (.slice none 0 0) 0 0 b w2 w3) : ∃ told taken v q ks vs, Rd w w3 bw gt ct gg f told taken v q ks vs := by
  subst hn
  obtain ⟨told', v', q', h1, h2, h3, h4, h5⟩ := htl
  have e : tellP (List.replicate f.code.length (-1)) 0 0 = some ((List.replicate f.code.length (-1)).set 0 0) := by
    unfold tellP
    rw [if_neg]
    rw [List.getD_eq_getElem?_getD, List.getElem?_replicate, if_pos (by omega)]
    simp
  rw [e] at h5
  have h6 : told' = (List.replicate f.code.length (-1)).set 0 0 := by
    rcases h5 with ⟨_, h5⟩ | ⟨_, h5⟩
    · exact (Option.some.inj h5).symm
    · cases h5
  subst h6
  rw [List.take_length] at hbu
  refine ⟨_, List.replicate f.code.length false, v', q', ks, vs, hcx.fr h2 h1, h3, h4, fun k => ?_, hbu.tree _, fun y => ?_, ?_⟩
  · rw [getD_set_if' _ _ _ _ (by simp; omega)]
    split
    · omega
    · rw [List.getD_eq_getElem?_getD, List.getElem?_replicate]
      split <;> simp
  · have := hlen y
    have := hok.hsn
    omega
  · rw [cnt_replicate]; rfl

set_option maxRecDepth 20000 in
set_option maxHeartbeats 16000000 in
theorem pdep_in {b0 o : Nat} {f : Fm} {s : Fs} (h : FnP w b0 o f s) (hok : CodeOk f) (ht : RowsT w) :
    Calls Tryz.prog 63 #[.pointer (some ⟨b0, o, none⟩)] w fun e w' => DepP f w.heap.size e w' ∧ Below w.heap.size w w' := by
  have hn1 := hok.len1
  have hn2 := hok.len
  have hBa := below1 w (.cells #[.int .i64 (-1)] 3)
  have c5 := (h.below hBa).cell 5 _ rfl
  obtain ⟨n, hn⟩ : ∃ n, f.code.length = n := ⟨_, rfl⟩
  have HN : Hid (f.code.length = n) := hn
  have HR := repeat_in (w := w.alloc (.cells #[.int .i64 (-1)] 3)) (bx := w.heap.size) (n := n) (by simp) (by rw [cell_of_row _ _ 0 _ _ _ (heap_alloc_new w (.cells #[.int .i64 (-1)] 3))]; rfl) (by omega) (by omega)
  have HP : Hid _ := h
  have HOK : Hid _ := hok
  have HT : Hid _ := ht
  have HG := fun (W : World) (hB : Below w.heap.size w W) => guardsOf_in (HP.out.below hB) HOK.out
  have e5 : Value.slice s.qi f.code.length s.ci = Value.slice s.qi n s.ci := by rw [hn]
  have c5' : (w.alloc (.cells #[.int .i64 (-1)] 3)).cell? ⟨b0, o + 5, none⟩ = some (.slice s.qi n s.ci) := by rw [c5, e5]
  rw [hn] at hn1 hn2 HG
  clear h hok ht c5 e5 hn
  go_enter Tryz.func63, Tryz.ntmps63
  go_wp2
  go_step3
  go_wp2_with (first
    | (go_at_call 79; (with_reducible refine HR.mono ?_); clear HR; rintro e w1 ⟨gt, ct, rfl, hnr, hB1⟩; have hB1' : Below w.heap.size w w1 := hBa.trans (hB1.mono (by simp)); have HGx := HG (w1.alloc (.cells #[.slice (some ⟨gt, 0, none⟩) n ct, .slice none 0 0] 143)) (hB1'.alloc hB1'.size _))
    | (go_at_call 80; (with_reducible refine HGx.mono ?_); clear HGx HG; rintro e w2 ⟨gg, ks, vs, rfl, hgs⟩; have hcx := ctx_begin HN.out.symm hnr (by simp) hB1' hgs; have hlen := hgs.lens; have hbu := hgs.built; clear hgs hnr hB1; have H3 : Calls Tryz.prog 81 #[.pointer (some ⟨w1.heap.size, 0, none⟩), .int .i64 (0 : Int), .int .i64 (0 : Int)] w2 fun e w' => ∃ b, e = .returned (.bool b) ∧ TellP w.heap.size w1.heap.size gt ct n (List.replicate n (-1)) (List.replicate n false) (.slice none 0 0) 0 0 b w2 w' := ptell_in hcx.wk qi_begin hn2 rep_lo 0 (by omega) 0 (by omega))
    | (go_at_call 81; (with_reducible refine H3.mono ?_); clear H3; rintro e w3 ⟨b, rfl, htl⟩))
  have rd0 := rd_begin HN.out hn1 HOK.out hcx hlen hbu htl
  clear hcx hlen hbu htl c5'
  obtain ⟨bw, hbw⟩ : ∃ bw, w1.heap.size = bw := ⟨_, rfl⟩
  rw [hbw] at rd0
  simp only [hbw]
  clear hbw hB1' hBa
  go_step3
  go_wp2
  go_loopw [3] (fun k wr => k = .int .i64 (-1) ∧ ∃ told taken v q ks vs, Rd w wr bw gt ct gg f told taken v q ks vs) (fun _ wr => muT gt n wr + muQ bw wr)
  case atStart => exact ⟨rfl, rd0⟩
  case round =>
    clear rd0
    obtain ⟨rfl, told, taken, v, q, ks, vs, rd⟩ := hrel
    have RD : Hid _ := rd
    obtain ⟨pv, cv, rfl, -, -, hpv⟩ := row_form rd.cx.wk.qr
    obtain ⟨⟨t0, t1⟩, -⟩ := cell_row2 rd.cx.wk.tb
    have htl : told.length = n := by rw [rd.qi.tl]; exact HN.out
    have HTL : Hid _ := htl
    rw [htl] at t0
    by_cases hq0 : q.length = 0
    · rw [hq0] at t1
      have HQ0 : Hid _ := hq0
      clear rd htl hpv hq0
      go_wp2
      rw [Exit.noGoto_ret]
      go_ret2
      have hr := RD.out
      have hdone : depthsP f = .ok told := hr.run.trans (run_done _ (fun k _ => hr.qi.empty HQ0.out k))
      refine ⟨?_, hr.cx.bel⟩
      have := DepP.good hdone hr.cx.wk.tr hr.qi.tl
      rw [HTL.out] at this
      exact this
    · obtain ⟨gq, rfl⟩ := hpv (by omega)
      have hq1 : 0 < (q.length : Int) := by omega
      have H4 := ptake_in rd.cx.wk rd.qi (by rw [HN.out]; exact hn2) (by omega)
      clear rd htl hpv hq0
      go_wp2_with (first
        | (go_at_call 82; (with_reducible refine H4.mono ?_); clear H4; rintro e w4 ⟨pc, rfl, htk⟩; refine haltP ?_))
      unfold HaltP
      obtain ⟨k1, k2, k3, k4, r, hw4, hf4, hq4⟩ := htk
      have cx4 := RD.out.cx.fr hf4 hw4
      rw [HN.out] at k1
      obtain ⟨i, hi⟩ : ∃ i, f.code[pc]? = some i := ⟨f.code[pc]'(by rw [HN.out]; exact k1), by simp⟩
      obtain ⟨d, hd⟩ : ∃ d, told.getD pc (-1) = d := ⟨_, rfl⟩
      have hdi : told[pc]? = some d := by rw [← hd, List.getD_eq_getElem?_getD]; simp [HTL.out, k1]
      have hr := takes_range HOK.out hi
      have ho := HOK.out.op i (List.mem_of_getElem? hi)
      have hd0 : 0 ≤ d := by rw [← hd]; exact k3
      have hd1 : d ≤ 257 := by rw [← hd]; exact RD.out.hi pc
      have hrun := RD.out.run.trans (run_step (by rw [HN.out]; exact k1) k4 k2 k3)
      have hstep := step_eq HOK.out RD.out.tree RD.out.qi.tl hi k3
      rw [hd] at hstep
      have fp4 := HP.out.below cx4.bel
      obtain ⟨bi, oi, hqi, -, -⟩ := fp4.fn.code.look2 (Below.refl _ _) hi
      have SS : ∀ W, Below w4.heap.size w4 W → W.cell? ⟨b0, o + 5, none⟩ = some (.slice (some ⟨bi, oi, none⟩) n s.ci) ∧ W.cell? ⟨bi, oi + pc * 2, none⟩ = some (.int .u8 i.op) ∧ W.cell? ⟨bi, oi + pc * 2 + 1, none⟩ = some (.int .i64 i.a) ∧ W.cell? ⟨bw, 0, none⟩ = some (.slice (some ⟨gt, 0, none⟩) n ct) ∧ W.cell? ⟨gt, pc, none⟩ = some (.int .i64 d) := fun W hB => by
        have f1 := fp4.below hB
        have c5 := f1.cell 5 _ rfl
        obtain ⟨b1, o1, e1, q1, q2⟩ := f1.fn.code.look2 (Below.refl _ _) hi
        rw [hqi] at e1
        simp only [Option.some.injEq, Addr.mk.injEq] at e1
        obtain ⟨rfl, rfl, _⟩ := e1
        have cx := cx4.below hB
        refine ⟨?_, q1, q2, ?_, cx.wk.tr.at hdi⟩
        · rw [c5, hqi, HN.out]
        · rw [(cell_row2 cx.wk.tb).1.1, HTL.out]
      have HBH := fun (W : World) (hB : Below w4.heap.size w4 W) => behind_in i ho hr d hd0 (by omega) (HT.out.below (cx4.bel.trans (hB.mono cx4.bel.size)))
      have HHI : Hid (f.code[pc]? = some i ∧ told.getD pc (-1) = d) := ⟨hi, hd⟩
      have HST : Hid _ := hstep
      have HRN : Hid _ := hrun
      have HSS : Hid _ := SS
      have HCX : Hid _ := cx4
      have HQ4 : Hid _ := hq4
      have hpcn : (pc : Int) < (n : Int) := by omega
      have HTK : Hid (taken[pc]? = some false) := k2
      clear hstep hrun hw4 hf4 k2 k3 k4 t0 t1 hdi hqi fp4 hi hd cx4 hq4
      obtain ⟨after, haft⟩ : ∃ x, d - takesP i + leavesP i = x := ⟨_, rfl⟩
      have HAF : Hid _ := haft
      cases hb : behindB i d with
      | false =>
        simp only [hb, haft] at HBH
        have HBB : Hid _ := hb
        clear hb haft hr
        go_wp2
        go_region_held3 (fun W => W.cell? ⟨b0, o + 5, none⟩ = some (.slice (some ⟨bi, oi, none⟩) n s.ci) ∧ W.cell? ⟨bi, oi + pc * 2, none⟩ = some (.int .u8 i.op) ∧ W.cell? ⟨bi, oi + pc * 2 + 1, none⟩ = some (.int .i64 i.a) ∧ W.cell? ⟨bw, 0, none⟩ = some (.slice (some ⟨gt, 0, none⟩) n ct) ∧ W.cell? ⟨gt, pc, none⟩ = some (.int .i64 d)) (first | exact SS _ (drewP (Below.refl _ _)) | exact SS _ hB5 | go_keep) ((go_at_call 83; (with_reducible refine (HBH _ (drewP (Below.refl _ _))).mono ?_); rintro e w5 ⟨rfl, hB5'⟩; have hB5 : Below w4.heap.size w4 w5 := (drewP (Below.refl _ _)).trans hB5'))
        obtain ⟨-, -, -, u0, -⟩ := SS _ hB5
        clear SS HBH
        go_wp2
        go_quiet (fail)
        go_wp2
        rw [Exit.noGoto_ret]
        go_ret2
        have hnone : stepP f told pc = none := by
          rw [HST.out, if_pos]
          have := HBB.out
          unfold behindB at this
          simp at this
          omega
        have hbad : depthsP f = .error pc := by rw [HRN.out, hnone]
        exact ⟨DepP.bad hbad, below_drewN (HCX.out.bel.trans (hB5.mono HCX.out.bel.size)) _⟩
      | true =>
        simp only [hb, haft] at HBH
        have HBB : Hid _ := hb
        have klen : ks.length = 2 * n := by rw [RD.out.tree.len, HN.out]
        have HD := fun (W : World) (hB : Below w4.heap.size w4 W) => deepest_in (2 * n) (HCX.out.below hB).gd klen hn2 k1
        obtain ⟨D, hD⟩ : ∃ D, deepF ks (path (n + pc) (n + pc)) 0 = D := ⟨_, rfl⟩
        simp only [klen, hD] at HD
        have HDD : Hid _ := hD
        have HKL : Hid _ := klen
        clear hb haft hr hD klen
        go_wp2
        go_region_held3 (fun W => W.cell? ⟨b0, o + 5, none⟩ = some (.slice (some ⟨bi, oi, none⟩) n s.ci) ∧ W.cell? ⟨bi, oi + pc * 2, none⟩ = some (.int .u8 i.op) ∧ W.cell? ⟨bi, oi + pc * 2 + 1, none⟩ = some (.int .i64 i.a) ∧ W.cell? ⟨bw, 0, none⟩ = some (.slice (some ⟨gt, 0, none⟩) n ct) ∧ W.cell? ⟨gt, pc, none⟩ = some (.int .i64 d)) (first | exact SS _ (drewP (Below.refl _ _)) | exact SS _ hB5 | go_keep) ((go_at_call 83; (with_reducible refine (HBH _ (drewP (Below.refl _ _))).mono ?_); rintro e w5 ⟨rfl, hB5'⟩; have hB5 : Below w4.heap.size w4 w5 := (drewP (Below.refl _ _)).trans hB5'))
        obtain ⟨-, -, -, u0, u1⟩ := SS _ hB5
        clear SS HBH
        by_cases hdD : d < D
        · go_wp2
          go_quiet ((go_at_call 84; exact Calls.quiet_of_same (HD _ (by first | exact hB5 | exact drewP hB5 | exact below_drewN hB5 _))))
          go_wp2
          rw [Exit.noGoto_ret]
          go_ret2
          have hnone : stepP f told pc = none := by
            rw [HST.out, if_pos]
            refine .inr (.inr (.inr ?_))
            show d < deepF ks (path (f.code.length + pc) (f.code.length + pc)) 0
            rw [HN.out, HDD.out]
            exact hdD
          have hbad : depthsP f = .error pc := by rw [HRN.out, hnone]
          exact ⟨DepP.bad hbad, below_drewN (HCX.out.bel.trans (hB5.mono HCX.out.bel.size)) _⟩
        · have HNW := fun (W : World) (hB : Below w4.heap.size w4 W) => news_in (2 * n) (HCX.out.below hB).gd HKL.out hn2 k1 (fun y => Nat.le_trans (RD.out.lens y) (by omega))
          obtain ⟨L, hL⟩ : ∃ L, newsF ks (path (n + pc) (n + pc)) = L := ⟨_, rfl⟩
          simp only [HKL.out, hL] at HNW
          have HLL : Hid _ := hL
          have hdD' : ¬ (d < D) := hdD
          clear hL
          go_wp2
          go_quiet ((go_at_call 84; exact Calls.quiet_of_same (HD _ (by first | exact hB5 | exact drewP hB5 | exact below_drewN hB5 _))))
          clear HD u0 u1
          go_wp2_with (first
            | (go_at_call 85; (with_reducible refine (HNW _ (below_drewN hB5 _)).mono ?_); clear HNW; rintro e w7 ⟨v7, vs7, rfl, hr7, hg7, hf7, hs7⟩; refine haltP ?_))
          unfold HaltP
          have cx7 := (HCX.out.below (below_drewN hB5 nq)).gf hf7 hg7 hs7
          have hpl : (pc : Nat) < f.code.length := by rw [HN.out]; exact k1
          have hni := news_iff HOK.out RD.out.tree hpl
          have hup : upP f pc = path (n + pc) (n + pc) := by show path (f.code.length + pc) (f.code.length + pc) = _; rw [HN.out]
          rw [hup, HLL.out] at hni
          have hLm : ∀ m ∈ L, ∃ h, f.hs[m]? = some h := fun m hm => by obtain ⟨h, h1, _⟩ := hni.1 m hm; exact ⟨h, h1⟩
          have hstep : Hid (stepP f told pc = tellsP (L.map (htell f) ++ (nextsP i pc).map (fun q => (q, after))) told) := by
            show stepP f told pc = _
            rw [HST.out, if_neg]
            · unfold ptell
              rw [hup, HLL.out, HAF.out]
            · have h1 := HBB.out
              unfold behindB at h1
              simp at h1
              rw [hup, HDD.out]
              omega
          have hLl : L.length ≤ 17179869184 := by
            rw [← HLL.out]
            have h1 := newsF_len ks (b := 524288) RD.out.lens (path (n + pc) (n + pc))
            have h2 := path_len (j := 16) (k := n + pc) (x := n + pc) (by omega)
            have h3 := Nat.mul_le_mul_right 524288 h2
            omega
          have rs0 : Rs w w7 w7 bw gt ct gg f told (taken.set pc true) (.slice (some ⟨gq, 0, none⟩) r.length cv) ((L.take 0).map (htell f)) told (.slice (some ⟨gq, 0, none⟩) r.length cv) r (clrF ks (path (n + pc) (n + pc))) vs7 := Rs.refl cx7 HQ4.out RD.out.lo rfl
          obtain ⟨p7, c7, rfl, -, -, hp7⟩ := row_form hr7
          have hr7a : Hid (∀ g, (Value.slice p7 L.length c7).ownBlock = some g → (Value.slice (some ⟨gq, 0, none⟩) r.length cv).ownBlock ≠ some g ∧ g ≠ gt) := fun g e => by
            have h1 := (hr7.lt g e).1
            have hsz : w4.heap.size ≤ (w5.drewN nq).heap.size := (below_drewN hB5 nq).size
            refine ⟨fun e2 => ?_, fun e2 => ?_⟩
            · have := (HCX.out.wk.qr.lt g e2).2; omega
            · have := HCX.out.wk.tr.lt.2; omega
          have HR7 : Hid _ := hr7
          have HC7 : Hid _ := cx7
          have HLM : Hid _ := hLm
          clear hr7 cx7 hLm hni hup hdD hdD' hf7 hg7 hs7
          go_wp2
          go_loopw [3, 63] (fun k3 k wr => k3 = .int .i64 (-1) ∧ ∃ (j : Nat) (told' : List Int) (v' : Value) (q' : List Int), k = .int .i64 j ∧ j ≤ L.length ∧ Rs w w7 wr bw gt ct gg f told (taken.set pc true) (.slice (some ⟨gq, 0, none⟩) r.length cv) ((L.take j).map (htell f)) told' v' q' (clrF ks (path (n + pc) (n + pc))) vs7) (fun _ k _ => L.length - (intOf k).toNat)
          case atStart => exact ⟨rfl, 0, told, _, r, rfl, by omega, rs0⟩
          case round =>
            clear rs0
            obtain ⟨rfl, j, told1, v1, q1, rfl, hj, rs⟩ := hrel
            have RS : Hid _ := rs
            by_cases hjl : j < L.length
            · have hjl' : (j : Int) < (L.length : Int) := by omega
              obtain ⟨m, hm⟩ : ∃ m, L[j]? = some m := ⟨L[j], by simp⟩
              obtain ⟨h, hh⟩ := HLM.out m (List.mem_of_getElem? hm)
              obtain ⟨a1, a2, a3, a4, a5, a6⟩ := HOK.out.hs h (List.mem_of_getElem? hh)
              obtain ⟨A, hA⟩ : ∃ A : Nat, h.at_ = (A : Int) := ⟨h.at_.toNat, by omega⟩
              obtain ⟨g7, rfl⟩ := hp7 (by omega)
              have hrow := row_fr HR7.out HC7.out.wk rs.fr hr7a.out
              have cL : wr.cell? ⟨g7, j, none⟩ = some (.int .i64 m) := nrow_cell hrow hm
              obtain ⟨bh, oh, hqh, -, -, -, -⟩ := (HP.out.below rs.cx.bel).fn.hs.lookH (Below.refl _ _) hh
              have SF : ∀ W, Below w.heap.size w W → W.cell? ⟨b0, o + 7, none⟩ = some (.slice (some ⟨bh, oh, none⟩) f.hs.length s.ch) ∧ W.cell? ⟨bh, oh + m * 4 + 2, none⟩ = some (.int .i64 A) ∧ W.cell? ⟨bh, oh + m * 4 + 3, none⟩ = some (.int .i64 h.deep) := fun W hB => by
                have f1 := HP.out.below hB
                have c7 := f1.cell 7 _ rfl
                obtain ⟨b1, o1, e1, _, _, q3, q4⟩ := f1.fn.hs.lookH (Below.refl _ _) hh
                rw [hqh] at e1
                simp only [Option.some.injEq, Addr.mk.injEq] at e1
                obtain ⟨rfl, rfl, _⟩ := e1
                rw [hA] at q3
                exact ⟨by rw [c7, hqh], q3, q4⟩
              have HTL2 := fun (W : World) (hB : Below wr.heap.size wr W) => ptell_in (rs.cx.below hB).wk rs.qi (by rw [HN.out]; exact hn2) rs.lo A (by omega) (h.deep + 1) (by omega)
              have hml : (m : Int) < (f.hs.length : Int) := by have := (List.getElem?_eq_some_iff.1 hh).1; omega
              have HJ : Hid (L[j]? = some m ∧ f.hs[m]? = some h ∧ h.at_ = (A : Int)) := ⟨hm, hh, hA⟩
              have hhs2 := HOK.out.hsn
              have hwr : IntKind.i64.wrap (h.deep + 1) = h.deep + 1 := by rw [IntKind.wrap_i64]; omega
              clear rs hrow hm hh hqh hA a3 a4
              go_wp2
              go_region_held3 (fun W => W.cell? ⟨b0, o + 7, none⟩ = some (.slice (some ⟨bh, oh, none⟩) f.hs.length s.ch) ∧ W.cell? ⟨bh, oh + m * 4 + 2, none⟩ = some (.int .i64 A) ∧ W.cell? ⟨bh, oh + m * 4 + 3, none⟩ = some (.int .i64 h.deep)) (first | exact SF _ (drewP RS.out.cx.bel) | exact SF _ cx8.bel | go_keep) ((go_at_call 81; (with_reducible refine (HTL2 _ (drewP (Below.refl _ _))).mono ?_); rintro e w8 ⟨b8, rfl, htp⟩; obtain ⟨t8, v8, q8, cx8⟩ := RS.out.ctx (drewP (Below.refl _ _)) htp))
              have u8 := (cell_row2 cx8.wk.tb).1.1
              rcases RS.out.next (drewP (Below.refl _ _)) htp with ⟨rfl, t9, v9, q9, rs9⟩ | ⟨rfl, hno, -⟩
              · have RS9 : Hid _ := rs9
                clear rs9 htp SF HTL2
                go_wp2
                go_roundw
                case rel =>
                  obtain ⟨x1, x2, x3⟩ := HJ.out
                  have hx := RS9.out
                  rw [← take_map x1 x2 x3] at hx
                  exact ⟨rfl, j + 1, t9, v9, q9, by simp, by omega, hx⟩
                case measure => simp [intOf]; omega
              · have CX8 : Hid _ := cx8
                have HNO : Hid _ := hno
                clear htp SF HTL2 cx8 hno
                go_wp2
                rw [Exit.noGoto_ret]
                go_ret2
                obtain ⟨x1, x2, x3⟩ := HJ.out
                have hnone : stepP f told pc = none := by
                  rw [hstep.out, split_map (L := L) (j + 1), take_map x1 x2 x3, List.append_assoc]
                  exact tells_none HNO.out
                have hbad : depthsP f = .error pc := by rw [HRN.out, hnone]
                exact ⟨DepP.bad hbad, CX8.out.bel⟩
            · have hjl' : ¬ ((j : Int) < (L.length : Int)) := by omega
              obtain rfl : j = L.length := by omega
              have fpr := HP.out.below rs.cx.bel
              have c5r : wr.cell? ⟨b0, o + 5, none⟩ = some (.slice s.qi n s.ci) := by rw [fpr.cell 5 _ rfl, HN.out]
              have HNX := next_in f.code s.qi s.ci pc i fpr.fn.code HHI.out.1 ho (by rw [HN.out]; exact hn2) (nexts_a HOK.out HHI.out.1) (HT.out.below rs.cx.bel)
              rw [HN.out] at HNX
              obtain ⟨Nx, hNx⟩ : ∃ Nx, nextsP i pc = Nx := ⟨_, rfl⟩
              rw [hNx] at HNX
              have HNXE : Hid _ := hNx
              clear rs fpr hNx hjl hj hp7
              go_wp2_with (first
                | (go_at_call 86; (with_reducible refine HNX.mono ?_); clear HNX; rintro e w10 ⟨v10, rfl, hr10, hB10⟩; refine haltP ?_))
              unfold HaltP
              have hxr := RS.out
              rw [List.take_length] at hxr
              have cx10 := hxr.cx.below hB10
              have rs10 : Rs w w10 w10 bw gt ct gg f told (taken.set pc true) v1 (L.map (htell f) ++ (Nx.take 0).map (fun q => (q, after))) told1 v1 q1 (clrF ks (path (n + pc) (n + pc))) vs7 := Rs.refl cx10 hxr.qi hxr.lo (by simpa using hxr.tells)
              obtain ⟨p10, c10, rfl, -, -, hp10⟩ := row_form hr10
              have hr10a : Hid (∀ g, (Value.slice p10 Nx.length c10).ownBlock = some g → v1.ownBlock ≠ some g ∧ g ≠ gt) := fun g e => by
                have h1 := (hr10.lt g e).1
                refine ⟨fun e2 => ?_, fun e2 => ?_⟩
                · have := (hxr.cx.wk.qr.lt g e2).2; omega
                · have := hxr.cx.wk.tr.lt.2; omega
              have hNxl : Nx.length ≤ 2 := by rw [← HNXE.out]; exact nexts_len' i pc
              have HNL : Hid (∀ m ∈ Nx, m < f.code.length) := by
                show ∀ m ∈ Nx, _
                rw [← HNXE.out]
                exact nexts_lt HOK.out HHI.out.1
              have haf : Hid (0 ≤ after) := by
                show 0 ≤ after
                have h1 := HBB.out
                unfold behindB at h1
                simp at h1
                have h2 := takes_range HOK.out HHI.out.1
                rw [← HAF.out]
                omega
              have HR10 : Hid _ := hr10
              have HC10 : Hid _ := cx10
              clear hr10 cx10 hxr c5r
              go_wp2
              go_loopw [3, 95] (fun k3 k wr => k3 = .int .i64 (-1) ∧ ∃ (j : Nat) (told' : List Int) (v' : Value) (q' : List Int), k = .int .i64 j ∧ j ≤ Nx.length ∧ Rs w w10 wr bw gt ct gg f told (taken.set pc true) v1 (L.map (htell f) ++ (Nx.take j).map (fun q => (q, after))) told' v' q' (clrF ks (path (n + pc) (n + pc))) vs7) (fun _ k _ => Nx.length - (intOf k).toNat)
              case atStart => exact ⟨rfl, 0, told1, _, q1, rfl, by omega, rs10⟩
              case round =>
                clear rs10
                obtain ⟨rfl, j, told2, v2, q2, rfl, hj, rs⟩ := hrel
                have RS2 : Hid _ := rs
                by_cases hjl : j < Nx.length
                · have hjl' : (j : Int) < (Nx.length : Int) := by omega
                  obtain ⟨m, hm⟩ : ∃ m, Nx[j]? = some m := ⟨Nx[j], by simp⟩
                  obtain ⟨g10, rfl⟩ := hp10 (by omega)
                  have hrow := row_fr HR10.out HC10.out.wk rs.fr hr10a.out
                  have cL := nrow_cell hrow hm
                  have HTL2 := ptell_in rs.cx.wk rs.qi (by rw [HN.out]; exact hn2) rs.lo m (HNL.out m (List.mem_of_getElem? hm)) after haf.out
                  have HJ : Hid (Nx[j]? = some m) := hm
                  clear rs hrow hm
                  go_wp2_with (first
                    | (go_at_call 81; (with_reducible refine HTL2.mono ?_); clear HTL2; rintro e w8 ⟨b8, rfl, htp⟩; refine haltP ?_))
                  unfold HaltP
                  obtain ⟨t8, v8, q8, cx8⟩ := RS2.out.ctx (Below.refl _ _) htp
                  have u8 := (cell_row2 cx8.wk.tb).1.1
                  rcases RS2.out.next (Below.refl _ _) htp with ⟨rfl, t9, v9, q9, rs9⟩ | ⟨rfl, hno, -⟩
                  · have RS9 : Hid _ := rs9
                    clear rs9 htp
                    go_wp2
                    go_roundw
                    case rel =>
                      have hx := RS9.out
                      rw [List.append_assoc, ← take_nexts HJ.out] at hx
                      exact ⟨rfl, j + 1, t9, v9, q9, by simp, by omega, hx⟩
                    case measure => simp [intOf]; omega
                  · have CX8 : Hid _ := cx8
                    have HNO : Hid _ := hno
                    clear htp cx8 hno
                    go_wp2
                    rw [Exit.noGoto_ret]
                    go_ret2
                    have hnone : stepP f told pc = none := by
                      rw [hstep.out, HNXE.out, split_map (L := Nx) (j + 1), take_nexts HJ.out, ← List.append_assoc, ← List.append_assoc]
                      exact tells_none HNO.out
                    have hbad : depthsP f = .error pc := by rw [HRN.out, hnone]
                    exact ⟨DepP.bad hbad, CX8.out.bel⟩
                · have hjl' : ¬ ((j : Int) < (Nx.length : Int)) := by omega
                  obtain rfl : j = Nx.length := by omega
                  clear rs
                  go_wp2
                  go_roundw
                  case rel =>
                    have hx := RS2.out
                    rw [List.take_length] at hx
                    obtain ⟨hi, hd⟩ := HHI.out
                    have h1 := HBB.out
                    unfold behindB at h1
                    simp at h1
                    have hup : upP f pc = path (n + pc) (n + pc) := by show path (f.code.length + pc) (f.code.length + pc) = _; rw [HN.out]
                    have hpt : ptell f ks pc i d = L.map (htell f) ++ Nx.map (fun q => (q, after)) := by unfold ptell; rw [hup, HLL.out, HNXE.out, HAF.out]
                    have hok2 := ptell_ok HOK.out RD.out.tree RD.out.qi.tl hi (d := d) (by omega) (by omega)
                    rw [hpt] at hok2
                    have htr := RD.out.tree.next HOK.out RD.out.qi.tl hi (d := d) (by omega) (by omega) (u := told2) (by rw [hpt]; exact hx.tells)
                    rw [hup] at htr
                    refine ⟨rfl, told2, taken.set pc true, v2, q2, clrF ks (path (n + pc) (n + pc)), vs7, hx.cx, hx.qi, hx.lo, tells_hi hx.tells hok2 RD.out.hi, htr, clr_hs RD.out.lens _, ?_⟩
                    rw [HRN.out, hstep.out, HNXE.out, hx.tells]
                  case measure =>
                    have hx := RS2.out
                    rw [← HN.out, mu_eq hx.cx.wk hx.qi, mu_eq RD.out.cx.wk RD.out.qi, cnt_set HTK.out]
                    omega

end Go.Proofs.YtgindgneobghaaaGreatDoor
