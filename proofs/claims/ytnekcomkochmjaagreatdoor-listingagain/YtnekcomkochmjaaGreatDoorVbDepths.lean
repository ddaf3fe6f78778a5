/- The program's depths: the walk. -/
import Derived.Test.YtnekcomkochmjaaGreatDoorVbRound
import Derived.WalkMore
import Derived.Sort.CutIn
import Derived.Sort.QuietIn
namespace Go.Proofs.YtnekcomkochmjaaGreatDoor
set_option linter.unusedVariables false
set_option linter.unusedSimpArgs false
open Go.RowKit Go.Shelf

attribute [local go_sem] Oper.semAt_some

variable {w : World}

theorem wpIn_scopeW {n : Nat} {P : Program} {c : Code} {Q : Exit → Act → World → Prop} {a : Act} {w : World} (h : c.wpIn Fence.wide n P (Exit.noGoto Q) a w) : (Code.scope c).wpIn Fence.wide n P Q a w := wpIn_wide.2 (wp_scope_straight (wpIn_wide.1 h))

/-- What depths answers. -/
def DepP (f : Fm) (base : Nat) (e : Ending) (w' : World) : Prop := match depthsP f with
  | .error pc => ∃ v, e = .returned (.tuple #[v, .int .i64 (pc : Nat)])
  | .ok told => ∃ g c, e = .returned (.tuple #[.slice (some ⟨g, 0, none⟩) told.length c, .int .i64 (-1)]) ∧ NumRow base g c told w' ∧ told.length = f.code.length

theorem DepP.bad {f : Fm} {base pc : Nat} {v : Value} {w' : World} (h : depthsP f = .error pc) : DepP f base (.returned (.tuple #[v, .int .i64 (pc : Nat)])) w' := by unfold DepP; rw [h]; exact ⟨_, rfl⟩

theorem DepP.good {f : Fm} {base g c : Nat} {told : List Int} {w' : World} (h : depthsP f = .ok told) (hr : NumRow base g c told w') (hl : told.length = f.code.length) : DepP f base (.returned (.tuple #[.slice (some ⟨g, 0, none⟩) told.length c, .int .i64 (-1)])) w' := by unfold DepP; rw [h]; exact ⟨g, c, rfl, hr, hl⟩

/-- What is known of what was told and taken. -/
structure RdM (f : Fm) (told : List Int) (ks ks' : List Kn) : Prop where
  hi : ∀ k, told.getD k (-1) ≤ 257
  tree : Tree f ks told
  dn : Dn ks ks'
  lens : ∀ y, (kn ks y).hs.length ≤ 524288

def IvD (w : World) (f : Fm) (b0 o bw gt ct gb cb : Nat) (gv : Value) (B4 B5 : Nat) (m : Nat) (bs : List Nat) (lst : Nat) (W : World) : Prop :=
  ∃ told taken ks ks' vs, Ctx w W b0 o bw gt ct gb cb f.code.length gv B4 B5 (-1) told taken bs lst ks' vs ∧ RdM f told ks ks' ∧ depthsP f = runP f (cnt taken) told taken ∧ cnt taken = m

def IrD (w : World) (f : Fm) (b0 o bw gt ct gb cb : Nat) (gv : Value) (B4 B5 : Nat) (m pc : Nat) (W : World) : Prop :=
  ∃ (told : List Int) (taken : List Bool) (bs : List Nat) (lst : Nat) (ks ks' : List Kn) (vs : List Value), Ctx w W b0 o bw gt ct gb cb f.code.length gv B4 B5 (-1) told (taken.set pc true) bs lst ks' vs ∧ RdM f told ks ks' ∧ pc < f.code.length ∧ 0 ≤ told.getD pc (-1) ∧ cnt (taken.set pc true) < m ∧
    depthsP f = (match stepP f told pc with | none => .error pc | some t => runP f (cnt (taken.set pc true)) t (taken.set pc true))

def IxD (w : World) (f : Fm) (b0 o bw gt ct gb cb : Nat) (gv : Value) (B4 B5 : Nat) (c : Code) (W : World) : Prop :=
  c = .exit 0 ∧ ∃ told taken bs lst ks' vs pc, Ctx w W b0 o bw gt ct gb cb f.code.length gv B4 B5 (pc : Nat) told taken bs lst ks' vs ∧ told.length = f.code.length ∧ depthsP f = .error pc

theorem results_tmp_int {fn : Func} {p u : Tmp} (h : fn.results = #[.tmp u, .cell p 3]) (tmps : Array Value) (w : World) (g : Nat) (x : Int)
    (hp : tmps.getD p undef = .pointer (some ⟨g, 0, none⟩)) (hc : w.cell? ⟨g, 0, none⟩ = some (.int .i64 x)) :
    (results fn tmps).run Tryz.prog w = .ok (.tuple #[tmps.getD u undef, .int .i64 x]) w := by
  have hp' : (tmps[p]?).getD undef = .pointer (some ⟨g, 0, none⟩) := by simpa using hp
  simp only [results, h]
  simp [Sem.run_bind, Result.andThen]
  rw [hp']
  go_simp

section
variable {f : Fm} {b0 o bw gt ct gb cb : Nat} {gv : Value} {B4 B5 : Nat} {W W' : World}

theorem own_ctx {n : Nat} {flt : Int} {told : List Int} {taken : List Bool} {bs : List Nat} {lst : Nat} {ks : List Kn} {vs : List Value} {B : Nat} (hB : w.heap.size ≤ B) {row : Option Nat}
    (h : Ctx w W b0 o bw gt ct gb cb n gv B4 B5 flt told taken bs lst ks vs) (hg : W.grownBy W' row) (hr : ∀ r, row = some r → B ≤ r ∧ ∃ ob : Obj, W.heap[r]? = some ob ∧ ob.isCells = false) : Ctx w W' b0 o bw gt ct gb cb n gv B4 B5 flt told taken bs lst ks vs := by
  refine h.cells ⟨hg.os.trans h.bel.os, hg.tape.trans h.bel.tape, hg.output.trans h.bel.output, Nat.le_trans h.bel.size hg.size, fun k hk => ?_⟩ (fun k cs t fz hk => ?_)
  · refine (hg.block k (Nat.lt_of_lt_of_le hk h.bel.size) (fun e => ?_)).trans (h.bel.block k hk)
    have := (hr k e.symm).1
    omega
  · refine (hg.block k (lt_of_blk hk) (fun e => ?_)).trans hk
    obtain ⟨_, ob, ho, hn⟩ := hr k e.symm
    rw [hk] at ho; cases ho; simp [Obj.isCells] at hn

theorem IvD.own {B m : Nat} {bs : List Nat} {lst : Nat} (hB : w.heap.size ≤ B) : OwnFrom B (fun (_ : Unit) W => IvD w f b0 o bw gt ct gb cb gv B4 B5 m bs lst W) := fun s W W' row hs hg hr => by
  obtain ⟨told, taken, ks, ks', vs, h1, h2⟩ := hs
  exact ⟨told, taken, ks, ks', vs, own_ctx hB h1 hg hr, h2⟩

theorem IrD.own {B m pc : Nat} (hB : w.heap.size ≤ B) : OwnFrom B (fun (_ : Unit) W => IrD w f b0 o bw gt ct gb cb gv B4 B5 m pc W) := fun s W W' row hs hg hr => by
  obtain ⟨told, taken, bs, lst, ks, ks', vs, h1, h2⟩ := hs
  exact ⟨told, taken, bs, lst, ks, ks', vs, own_ctx hB h1 hg hr, h2⟩

theorem IxD.own {B : Nat} {c : Code} (hB : w.heap.size ≤ B) : OwnFrom B (fun (_ : Unit) W => IxD w f b0 o bw gt ct gb cb gv B4 B5 c W) := fun s W W' row hs hg hr => by
  obtain ⟨hc, told, taken, bs, lst, ks', vs, pc, h1, h2⟩ := hs
  exact ⟨hc, told, taken, bs, lst, ks', vs, pc, own_ctx hB h1 hg hr, h2⟩

theorem IvD.view {m : Nat} {bs : List Nat} {lst : Nat} (hn : f.code.length ≤ 16384) (ht : RowsT w) (h : IvD w f b0 o bw gt ct gb cb gv B4 B5 m bs lst W) : Vw bw gb cb bs lst W ∧ bs.length = f.code.length / 64 + 1 ∧ lst ≤ f.code.length / 64 + 1 := by
  obtain ⟨told, taken, ks, ks', vs, h1, h2⟩ := h
  obtain ⟨⟨-, c1, c2⟩, f2⟩ := h1.st.wk.cells
  exact ⟨⟨c1, c2, f2, fun i hi => ⟨h1.st.wk.br.at hi, h1.st.wk.br.frozen i⟩, Ne.symm h1.st.wk.ne.2, h1.st.qb.w64, by have := h1.st.qb.bl; omega, (ht.below h1.bel).2⟩, h1.st.qb.bl, h1.st.qb.ll⟩

theorem IvD.dr {m : Nat} {bs : List Nat} {lst : Nat} (h : IvD w f b0 o bw gt ct gb cb gv B4 B5 m bs lst W) (hd : Dr W W') : IvD w f b0 o bw gt ct gb cb gv B4 B5 m bs lst W' := by
  obtain ⟨told, taken, ks, ks', vs, h1, h2⟩ := h
  exact ⟨told, taken, ks, ks', vs, h1.below (hd.below _), h2⟩

theorem IvD.skip {m : Nat} {bs : List Nat} {lst : Nat} (h : IvD w f b0 o bw gt ct gb cb gv B4 B5 m bs lst W) (hl : lst < f.code.length / 64 + 1) (h0 : bs.getD lst 0 = 0) (hd : Dr (W.setCell ⟨bw, 2, none⟩ (.int .i64 (lst + 1 : Nat))) W') : IvD w f b0 o bw gt ct gb cb gv B4 B5 m bs (lst + 1) W' := by
  obtain ⟨told, taken, ks, ks', vs, h1, h2⟩ := h
  have s1 : St (W.setCell ⟨bw, 2, none⟩ (.int .i64 (lst + 1 : Nat))) (w.heap.size + 2) bw gt ct gb cb f.code.length told taken bs (lst + 1) := ⟨h1.st.wk.lset (lst + 1), h1.st.qb.skip (by rw [h1.st.qb.bl]; exact hl) h0, h1.st.lo⟩
  exact ⟨told, taken, ks, ks', vs, (h1.fr (Fr.setw W 2 _) s1).below (hd.below _), h2⟩

theorem IvD.pick {m : Nat} {bs : List Nat} {lst : Nat} (h : IvD w f b0 o bw gt ct gb cb gv B4 B5 m bs lst W) (hl : lst < f.code.length / 64 + 1) (h0 : bs.getD lst 0 ≠ 0) (hd : Dr (W.setCell ⟨gb, lst, none⟩ (.int .u64 (bs.getD lst 0 &&& (bs.getD lst 0 - 1) : Nat))) W') : IrD w f b0 o bw gt ct gb cb gv B4 B5 m (64 * lst + Lib.ctz 64 (bs.getD lst 0)) W' := by
  obtain ⟨told, taken, ks, ks', vs, h1, h2, h3, h4⟩ := h
  obtain ⟨p1, p2, p3, p4, p5⟩ := h1.st.qb.pick (by rw [h1.st.qb.bl]; exact hl) h0 rfl
  have s1 : St (W.setCell ⟨gb, lst, none⟩ (.int .u64 (bs.getD lst 0 &&& (bs.getD lst 0 - 1) : Nat))) (w.heap.size + 2) bw gt ct gb cb f.code.length told (taken.set (64 * lst + Lib.ctz 64 (bs.getD lst 0)) true) (clrB bs lst) lst := ⟨h1.st.wk.bset lst _, p5, h1.st.lo⟩
  refine ⟨told, taken, _, _, ks, ks', vs, (h1.fr (Fr.setb W lst _) s1).below (hd.below _), h2, p1, p3, ?_, h3.trans (run_step p1 p4 p2 p3)⟩
  have := cnt_set p2
  omega

theorem iv_begin {W3 W4 : World} {bs : List Nat} {lst : Nat} {ks ks' : List Kn} {vs : List Value} {bt : Bool} (cx0 : Ctx w W3 b0 o bw gt ct gb cb f.code.length gv B4 B5 0 (List.replicate f.code.length (-1)) (List.replicate f.code.length false) bs lst ks' vs)
    (dn : Dn ks ks') (bu : Built f.code.length f.hs ks) (le : ∀ y, (kn ks y).hs.length ≤ f.hs.length * 32) (hok : CodeOk f)
    (htl : TellsP (w.heap.size + 2) bw gt ct gb cb f.code.length (List.replicate f.code.length (-1)) (List.replicate f.code.length false) [(0, 0)] bt W3 W4) :
    ∃ told1 bs1 lst1 ks' vs, Ctx w W4 b0 o bw gt ct gb cb f.code.length gv B4 B5 0 told1 (List.replicate f.code.length false) bs1 lst1 ks' vs ∧ IvD w f b0 o bw gt ct gb cb gv B4 B5 f.code.length bs1 lst1 (W4.setCell ⟨w.heap.size + 1, 0, none⟩ (.int .i64 (-1))) := by
  obtain ⟨told1, bs1, lst1, st1, fr1, hb1⟩ := htl
  have hn1 := hok.len1
  have e : tellsP [(0, 0)] (List.replicate f.code.length (-1)) = some ((List.replicate f.code.length (-1)).set 0 0) := by
    rw [tellsP_one]
    unfold tellP
    rw [if_neg]
    rw [List.getD_eq_getElem?_getD, List.getElem?_replicate, if_pos (by simp; omega)]
    simp
  rw [e] at hb1
  have h6 : told1 = (List.replicate f.code.length (-1)).set 0 0 := by
    rcases hb1 with ⟨_, h5⟩ | ⟨_, h5⟩
    · exact (Option.some.inj h5).symm
    · cases h5
  subst h6
  have cx1 := cx0.fr fr1 st1
  refine ⟨_, bs1, lst1, ks', vs, cx1, _, _, ks, ks', vs, cx1.fset (-1), ⟨fun k => ?_, bu.tree _, dn, fun y => ?_⟩, ?_, cnt_replicate _⟩
  · rw [getD_set_if' _ _ _ _ (by simp; omega)]
    split
    · omega
    · rw [List.getD_eq_getElem?_getD, List.getElem?_replicate]
      split <;> simp
  · have := le y
    have := hok.hsn
    omega
  · rw [cnt_replicate]; rfl
end

set_option maxRecDepth 100000 in
set_option maxHeartbeats 16000000 in
theorem pdep_in {b0 o : Nat} {f : Fm} {s : Fs} (h : FnP w b0 o f s) (hok : CodeOk f) (ht : RowsT w) :
    Calls Tryz.prog 27 #[.pointer (some ⟨b0, o, none⟩)] w fun e w' => DepP f w.heap.size e w' ∧ Below w.heap.size w w' := by
  refine (callsIn_wide (n := 3)).1 ?_
  have h1 : 1 ≤ 3 := by omega
  have hn1 := hok.len1
  have hn2 := hok.len
  obtain ⟨n, hn⟩ : ∃ n, f.code.length = n := ⟨_, rfl⟩
  obtain ⟨W0, hW0⟩ : ∃ W0, (w.alloc (.cells #[.pointer (some ⟨b0, o, none⟩)] 54)).alloc (.cells #[.int .i64 0] 3) = W0 := ⟨_, rfl⟩
  have hB0 : Below w.heap.size w W0 := by rw [← hW0]; exact (below1 w _).alloc (by simp) _
  have hs0 : W0.heap.size = w.heap.size + 2 := by rw [← hW0]; simp
  have g1 : W0.heap[w.heap.size]? = some (.cells #[.pointer (some ⟨b0, o, none⟩)] 54 (0, 0)) := by
    rw [← hW0]; exact (Below.heap_alloc _ _ _ (by simp)).trans (heap_alloc_new w _)
  have g3 : W0.heap[w.heap.size + 1]? = some (.cells #[.int .i64 0] 3 (0, 0)) := by
    rw [← hW0]
    have := heap_alloc_new (w.alloc (.cells #[.pointer (some ⟨b0, o, none⟩)] 54)) (.cells #[.int .i64 0] 3)
    rw [World.size_alloc] at this
    exact this
  have Z : ∀ W, Below W0.heap.size W0 W → W.cell? ⟨w.heap.size, 0, none⟩ = some (.pointer (some ⟨b0, o, none⟩)) ∧ W.cell? ⟨b0, o + 5, none⟩ = some (.slice s.qi n s.ci) := fun W hB => by
    constructor
    · rw [cell_of_row W _ 0 _ _ _ ((hB.block _ (by omega)).trans g1)]; rfl
    · have := (h.below (hB0.trans (hB.mono hB0.size))).cell 5 _ rfl
      rw [← hn]; exact this
  obtain ⟨z1, z2⟩ := Z W0 (Below.refl _ _)
  have HG := fun (W : World) (hB : Below W0.heap.size W0 W) => guardsOf_in (h.below (hB0.trans (hB.mono hB0.size))) hok
  have HNW := newWalk_in (w := W0) (n := n) (by omega) (by omega)
  have HP : Hid _ := h
  have HOK : Hid _ := hok
  have HT : Hid (RowsT w) := ht
  have HN : Hid _ := hn
  clear h hok ht hn1 hn2 hn
  refine callsIn_of_wp_marks Tryz.func27 rfl trivial ?_ rfl
  simp only [Tryz.ntmps27, List.size_toArray, List.length_cons, List.length_nil, Nat.reduceAdd, Nat.reduceSub, Array.replicate_succ, Array.replicate_zero, List.push_toArray, List.append_toArray, List.nil_append, List.cons_append]
  gi_wp2
  refine wpIn_scopeW ?_
  gi_wp2_with (first
    | (refine ⟨trivial, ?_⟩; gi_at_call 51; refine (callsIn_wide.2 HNW).mono ?_; clear HNW; rintro e W1 ⟨bw, gt, ct, gb, cb, rfl, hwk, hB1⟩; obtain ⟨y1, y2⟩ := Z _ (hB1.alloc hB1.size (.cells #[.pointer (some ⟨bw, 0, none⟩)] 119)); have HG1 := HG _ (hB1.alloc hB1.size (.cells #[.pointer (some ⟨bw, 0, none⟩)] 119)))
    | (refine ⟨trivial, ?_⟩; gi_at_call 52; refine (callsIn_wide.2 HG1).mono ?_; clear HG1 HG; rintro e W2 ⟨gv, rfl, hgr⟩; refine haltP ?_))
  unfold HaltP
  have hn1 := HOK.out.len1
  have hn2 := HOK.out.len
  obtain ⟨ks, ks', vs, cx0, dn0, bu0, le0⟩ := ctx_begin (f := f) hB0 hs0 g1 g3 (by rw [HN.out]; exact hwk) hB1 hgr
  obtain ⟨gp, gl, gc, rfl⟩ : ∃ gp gl gc, gv = .slice gp gl gc := by
    rcases hgr with ⟨-, e, -⟩ | ⟨gg, _, _, _, e, -⟩
    · exact ⟨_, _, _, e⟩
    · exact ⟨_, _, _, e⟩
  obtain ⟨B4, hB4⟩ : ∃ B4, W1.heap.size = B4 := ⟨_, rfl⟩
  obtain ⟨B5, hB5⟩ : ∃ B5, W2.heap.size = B5 := ⟨_, rfl⟩
  rw [hB4, hB5] at cx0
  simp only [hB4]
  obtain ⟨q1, q2, q3, q4, q5, q6⟩ := cx0.reads
  have HTL : Calls Tryz.prog 53 #[.pointer (some ⟨bw, 0, none⟩), .int .i64 (0 : Int), .int .i64 (0 : Int)] (W2.alloc (.cells #[.slice gp gl gc] 122)) fun e w' => ∃ b, e = .returned (.bool b) ∧ TellsP (w.heap.size + 2) bw gt ct gb cb f.code.length (List.replicate f.code.length (-1)) (List.replicate f.code.length false) [(0, 0)] b (W2.alloc (.cells #[.slice gp gl gc] 122)) w' :=
    ptell_in cx0.st hn2 0 (by omega) 0 (by omega)
  clear g1 g3 hwk hB1 hgr Z z1 z2 y1 y2 hn1 hn2 hs0
  gi_wp2_with (first
    | (refine ⟨trivial, ?_⟩; gi_at_call 53; refine (callsIn_wide.2 HTL).mono ?_; clear HTL; rintro e W4 ⟨bt, rfl, htl⟩; refine haltP ?_))
  unfold HaltP
  obtain ⟨told1, bs1, lst1, ks1, vs1, cx1, iv1⟩ := iv_begin cx0 dn0 bu0 le0 HOK.out htl
  clear q1 q2 q3 q4 q5 q6 cx0 dn0 bu0 le0 htl
  obtain ⟨q1, q2, q3, q4, q5, q6⟩ := cx1.reads
  have hne : ¬ B4 = w.heap.size + 1 := by have := cx1.d4; omega
  gi_wp2
  refine wpIn_label ?_
  have cx2 := cx1.fset (-1)
  obtain ⟨W5, hW5⟩ : ∃ W5, W4.setCell ⟨w.heap.size + 1, 0, none⟩ (.int .i64 (-1)) = W5 := ⟨_, rfl⟩
  rw [hW5] at iv1 cx2
  simp only [hW5]
  clear hW5 q1 q2 q3 q4 q5 q6 cx1 hne hB4 hB5
  obtain ⟨q1, q2, q3, q4, q5, q6⟩ := cx2.reads
  have hB5w : Below w.heap.size w W5 := cx2.bel
  clear cx2
  gi_wp2
  have hn2 := HOK.out.len
  refine wp_range_taken (bw := bw) (gb := gb) (cb := cb) (len := f.code.length / 64 + 1) h1 rfl rfl (IvD w f b0 o bw gt ct gb cb (.slice gp gl gc) B4 B5) (IrD w f b0 o bw gt ct gb cb (.slice gp gl gc) B4 B5) (IxD w f b0 o bw gt ct gb cb (.slice gp gl gc) B4 B5)
    (fun _ _ _ => IvD.own hB5w.size) (fun _ _ => IrD.own hB5w.size) (fun _ => IxD.own hB5w.size) iv1 (fun m bs lst A h => h.view hn2 HT.out) (fun m bs lst A C h hd => h.dr hd) (fun m bs lst A C h hl h0 hd => h.skip hl h0 hd) (fun m bs lst A C h hl h0 hd => h.pick hl h0 hd)
    ?ax ?assign ?body ?done ?stop
  case assign =>
    intro l pc W K hK
    gi_wp2
    exact hK
  case done =>
    rintro D m bs lst W hD hi hl hK
    obtain ⟨told, taken, ks, ks', vs, cx, rm, run, hm⟩ := hi
    obtain ⟨q1, q2, q3, q4, q5, q6⟩ := cx.reads
    have CX : Hid _ := cx
    have RUN : Hid _ := run
    clear iv1 cx rm run
    gi_wp2
    gi_region
    gi_wp2
    rw [Exit.noGoto_ret]
    have cx := CX.out
    have hK2 : (W.setCell ⟨w.heap.size + 1, 0, none⟩ (.int .i64 (-1))).drew.heap[D]? = some (.deferred (some [])) := (heap_setCell_other W ⟨w.heap.size + 1, 0, none⟩ D _ (fun e => by have e' : D = w.heap.size + 1 := e; rw [e', cx.b3] at hK; cases hK)).trans hK
    have cx3 := own_ctx (Nat.le_refl _) ((cx.fset (-1)).below ((Dr.refl _).drew.below _)) (grownBy_putObj' _ D (.deferred none)) (fun r e => by cases e; exact ⟨Nat.le_trans hB5w.size hD, _, hK2, rfl⟩)
    refine ⟨by simp, .inl ⟨_, _, rfl, run_takeDeferred hK2, ?_⟩⟩
    refine ⟨_, results_tmp_int (by rfl) _ _ _ _ (by rfl) cx3.reads.2.1, ?_, cx3.bel⟩
    refine DepP.good (RUN.out.trans (run_done _ (fun k _ => cx.st.qb.empty (by rw [cx.st.qb.bl]; exact hl) k))) (ownsRow_mono cx3.st.wk.tr (by omega)) cx.st.qb.tl
  case stop =>
    rintro D c W hD ⟨rfl, told, taken, bs, lst, ks', vs, pc, cx, htl, hbad⟩ hK
    obtain ⟨q1, q2, q3, q4, q5, q6⟩ := cx.reads
    have CX : Hid _ := cx
    have HBAD : Hid _ := hbad
    clear iv1 cx hbad
    refine wpIn_exit ?_
    gi_wp2
    gi_region
    gi_wp2
    rw [Exit.noGoto_ret]
    have cx := CX.out
    have hK2 : (W.setCell ⟨w.heap.size + 1, 0, none⟩ (.int .i64 (pc : Nat))).drew.heap[D]? = some (.deferred (some [])) := (heap_setCell_other W ⟨w.heap.size + 1, 0, none⟩ D _ (fun e => by have e' : D = w.heap.size + 1 := e; rw [e', cx.b3] at hK; cases hK)).trans hK
    have cx3 := own_ctx (Nat.le_refl _) ((cx.fset (pc : Nat)).below ((Dr.refl _).drew.below _)) (grownBy_putObj' _ D (.deferred none)) (fun r e => by cases e; exact ⟨Nat.le_trans hB5w.size hD, _, hK2, rfl⟩)
    refine ⟨by simp, .inl ⟨_, _, rfl, run_takeDeferred hK2, ?_⟩⟩
    refine ⟨_, results_tmp_int (by rfl) _ _ _ _ (by rfl) cx3.reads.2.1, ?_, cx3.bel⟩
    exact DepP.bad HBAD.out
  case body =>
    rintro l m pc W ⟨told, taken, bs, lst, ks, ks', vs, cx, rm, hpc, hd0, hcm, run⟩
    obtain ⟨i, hi⟩ : ∃ i, f.code[pc]? = some i := ⟨f.code[pc], by simp⟩
    obtain ⟨d, hd⟩ : ∃ d, told.getD pc (-1) = d := ⟨_, rfl⟩
    have htl := cx.st.qb.tl
    have hdi : told[pc]? = some d := by rw [← hd, List.getD_eq_getElem?_getD]; simp [htl, hpc]
    have hr := takes_range HOK.out hi
    have ho := HOK.out.op i (List.mem_of_getElem? hi)
    have hstep := step_eq HOK.out rm.tree htl hi hd0
    rw [hd] at hstep hd0
    have hd1 : d ≤ 257 := by rw [← hd]; exact rm.hi pc
    have fp := HP.out.below cx.bel
    obtain ⟨bi, oi, hqi, -, -⟩ := fp.fn.code.look2 (Below.refl _ _) hi
    have SS : Hid (∀ W', Below W.heap.size W W' → (fun W' => W'.cell? ⟨w.heap.size, 0, none⟩ = some (.pointer (some ⟨b0, o, none⟩)) ∧ W'.cell? ⟨b0, o + 5, none⟩ = some (.slice (some ⟨bi, oi, none⟩) n s.ci) ∧ W'.cell? ⟨bi, oi + pc * 2, none⟩ = some (.int .u8 i.op) ∧ W'.cell? ⟨bi, oi + pc * 2 + 1, none⟩ = some (.int .i64 i.a) ∧ W'.cell? ⟨B4, 0, none⟩ = some (.pointer (some ⟨bw, 0, none⟩)) ∧ W'.cell? ⟨bw, 0, none⟩ = some (.slice (some ⟨gt, 0, none⟩) n ct) ∧ W'.cell? ⟨gt, pc, none⟩ = some (.int .i64 d)) W') := fun W' hB => by
      have cx' := cx.below hB
      have f1 := HP.out.below cx'.bel
      have c5 := f1.cell 5 _ rfl
      obtain ⟨b1, o1, e1, a1, a2⟩ := f1.fn.code.look2 (Below.refl _ _) hi
      rw [hqi] at e1
      simp only [Option.some.injEq, Addr.mk.injEq] at e1
      obtain ⟨rfl, rfl, _⟩ := e1
      obtain ⟨p1, p2, p3, p4, p5, p6⟩ := cx'.reads
      refine ⟨p1, ?_, a1, a2, p3, ?_, cx'.st.wk.tr.at hdi⟩
      · rw [c5, hqi, HN.out]
      · rw [p5, htl, HN.out]
    have HBH := fun (W' : World) (hB : Below W.heap.size W W') => behind_in i ho hr d hd0 (by omega) (HT.out.below (cx.below hB).bel)
    have CX : Hid _ := cx
    have RM : Hid _ := rm
    have HI : Hid (f.code[pc]? = some i ∧ told.getD pc (-1) = d ∧ pc < f.code.length ∧ told.length = f.code.length) := ⟨hi, hd, hpc, htl⟩
    have HST : Hid _ := hstep
    have HRN : Hid _ := run
    have HCM : Hid _ := hcm
    have hpcn : (pc : Int) < (n : Int) := by have := HN.out; omega
    have hpn : pc < n := by have := HN.out; omega
    have hpc16 : pc < 16384 := by have := HOK.out.len; omega
    obtain ⟨after, haft⟩ : ∃ x, d - takesP i + leavesP i = x := ⟨_, rfl⟩
    have HAF : Hid _ := haft
    clear iv1 q1 q2 q3 q4 q5 q6 cx rm hi hd htl hdi hstep run hcm hqi fp hpc hr
    cases hb : behindB i d with
    | false =>
      simp only [hb, haft] at HBH
      have HBB : Hid _ := hb
      clear hb haft
      gi_wp2
      refine wpIn_region_heldR (S := (fun W' => W'.cell? ⟨w.heap.size, 0, none⟩ = some (.pointer (some ⟨b0, o, none⟩)) ∧ W'.cell? ⟨b0, o + 5, none⟩ = some (.slice (some ⟨bi, oi, none⟩) n s.ci) ∧ W'.cell? ⟨bi, oi + pc * 2, none⟩ = some (.int .u8 i.op) ∧ W'.cell? ⟨bi, oi + pc * 2 + 1, none⟩ = some (.int .i64 i.a) ∧ W'.cell? ⟨B4, 0, none⟩ = some (.pointer (some ⟨bw, 0, none⟩)) ∧ W'.cell? ⟨bw, 0, none⟩ = some (.slice (some ⟨gt, 0, none⟩) n ct) ∧ W'.cell? ⟨gt, pc, none⟩ = some (.int .i64 d))) (by kernel_rfl) (by kernel_rfl) (fun ⟨_, _, hq⟩ => hq) (SS.out _ (drewP (Below.refl _ _))) (fun hHeld => ?_)
      simp only [List.size_toArray, List.length_cons, List.length_nil, Nat.reduceAdd, Array.replicate_succ, Array.replicate_zero, List.push_toArray, List.nil_append, List.cons_append]
      refine take_atR (i := 0) (d := 27) (v := ?vt1) rfl rfl (by kernel_rfl) (by kernel_rfl) (by kernel_rfl) (fun _ _ _ h => h) (Or.inl ⟨by rfl, ?hyt1⟩) (by assumption) ?restt1
      case hyt1 => (intro wq hSw; (try dsimp only at hSw); go_simp; try with_reducible rfl)
      simp only [List.setIfInBounds_toArray, List.set_cons_zero, List.set_cons_succ]
      refine take_atR (i := 1) (d := 28) (v := ?vt2) rfl rfl (by kernel_rfl) (by kernel_rfl) (by kernel_rfl) (fun _ _ _ h => h) (Or.inl ⟨by rfl, ?hyt2⟩) (by assumption) ?restt2
      case hyt2 => (intro wq hSw; (try dsimp only at hSw); go_simp; try with_reducible rfl)
      simp only [List.setIfInBounds_toArray, List.set_cons_zero, List.set_cons_succ]
      refine take_atR (i := 2) (d := 29) (v := ?vt3) rfl rfl (by kernel_rfl) (by kernel_rfl) (by kernel_rfl) (fun _ _ _ h => h) (Or.inl ⟨by rfl, ?hyt3⟩) (by assumption) ?restt3
      case hyt3 => (intro wq hSw; (try dsimp only at hSw); go_simp; try with_reducible rfl)
      simp only [List.setIfInBounds_toArray, List.set_cons_zero, List.set_cons_succ]
      refine take_atR (i := 3) (d := 30) (v := ?vt4) rfl rfl (by kernel_rfl) (by kernel_rfl) (by kernel_rfl) (fun _ _ _ h => h) (Or.inl ⟨by rfl, ?hyt4⟩) (by assumption) ?restt4
      case hyt4 => (intro wq hSw; (try dsimp only at hSw); go_simp; try with_reducible rfl)
      simp only [List.setIfInBounds_toArray, List.set_cons_zero, List.set_cons_succ]
      refine take_atR (i := 4) (d := 31) (v := ?vt5) rfl rfl (by kernel_rfl) (by kernel_rfl) (by kernel_rfl) (fun _ _ _ h => h) (Or.inl ⟨by rfl, ?hyt5⟩) (by assumption) ?restt5
      case hyt5 => (intro wq hSw; (try dsimp only at hSw); go_simp; try with_reducible rfl)
      simp only [List.setIfInBounds_toArray, List.set_cons_zero, List.set_cons_succ]
      refine take_atR (i := 5) (d := 32) (v := ?vt6) rfl rfl (by kernel_rfl) (by kernel_rfl) (by kernel_rfl) (fun _ _ _ h => h) (Or.inl ⟨by rfl, ?hyt6⟩) (by assumption) ?restt6
      case hyt6 => (intro wq hSw; (try dsimp only at hSw); go_simp; try with_reducible rfl)
      simp only [List.setIfInBounds_toArray, List.set_cons_zero, List.set_cons_succ]
      refine take_atR (i := 6) (d := 33) (v := ?vt7) rfl rfl (by kernel_rfl) (by kernel_rfl) (by kernel_rfl) (fun _ _ _ h => h) (Or.inl ⟨by rfl, ?hyt7⟩) (by assumption) ?restt7
      case hyt7 => (intro wq hSw; (try dsimp only at hSw); go_simp; try with_reducible rfl)
      simp only [List.setIfInBounds_toArray, List.set_cons_zero, List.set_cons_succ]
      refine take_atR (i := 7) (d := 34) (v := ?vt8) rfl rfl (by kernel_rfl) (by kernel_rfl) (by kernel_rfl) (fun _ _ _ h => h) (Or.inl ⟨by rfl, ?hyt8⟩) (by assumption) ?restt8
      case hyt8 => (intro wq hSw; (try dsimp only at hSw); go_simp; try with_reducible rfl)
      simp only [List.setIfInBounds_toArray, List.set_cons_zero, List.set_cons_succ]
      refine take_atR (i := 8) (d := 35) (v := ?vt9) rfl rfl (by kernel_rfl) (by kernel_rfl) (by kernel_rfl) (fun _ _ _ h => h) (Or.inl ⟨by rfl, ?hyt9⟩) (by assumption) ?restt9
      case hyt9 => (intro wq hSw; (try dsimp only at hSw); go_simp; try with_reducible rfl)
      simp only [List.setIfInBounds_toArray, List.set_cons_zero, List.set_cons_succ]
      refine take_atR (i := 9) (d := 36) (v := ?vt10) rfl rfl (by kernel_rfl) (by kernel_rfl) (by kernel_rfl) (fun _ _ _ h => h) (Or.inl ⟨by rfl, ?hyt10⟩) (by assumption) ?restt10
      case hyt10 => (intro wq hSw; (try dsimp only at hSw); go_simp; try with_reducible rfl)
      simp only [List.setIfInBounds_toArray, List.set_cons_zero, List.set_cons_succ]
      refine take_atR (i := 10) (d := 37) (v := ?vt11) rfl rfl (by kernel_rfl) (by kernel_rfl) (by kernel_rfl) (fun _ _ _ h => h) (Or.inl ⟨by rfl, ?hyt11⟩) (by assumption) ?restt11
      case hyt11 => (intro wq hSw; (try dsimp only at hSw); go_simp; try with_reducible rfl)
      simp only [List.setIfInBounds_toArray, List.set_cons_zero, List.set_cons_succ]
      refine take_atR (i := 11) (d := 38) (v := ?vt12) rfl rfl (by kernel_rfl) (by kernel_rfl) (by kernel_rfl) (fun _ _ _ h => h) (Or.inl ⟨by rfl, ?hyt12⟩) (by assumption) ?restt12
      case hyt12 => (intro wq hSw; (try dsimp only at hSw); go_simp; try with_reducible rfl)
      simp only [List.setIfInBounds_toArray, List.set_cons_zero, List.set_cons_succ]
      refine take_atR (i := 12) (d := 39) (v := ?vt13) rfl rfl (by kernel_rfl) (by kernel_rfl) (by kernel_rfl) (fun _ _ _ h => h) (Or.inl ⟨by rfl, ?hyt13⟩) (by assumption) ?restt13
      case hyt13 => (intro wq hSw; (try dsimp only at hSw); go_simp; try with_reducible rfl)
      simp only [List.setIfInBounds_toArray, List.set_cons_zero, List.set_cons_succ]
      refine take_atR (i := 13) (d := 40) (v := ?vt14) rfl rfl (by kernel_rfl) (by kernel_rfl) (by kernel_rfl) (fun _ _ _ h => h) (Or.inl ⟨by rfl, ?hyt14⟩) (by assumption) ?restt14
      case hyt14 => (intro wq hSw; (try dsimp only at hSw); go_simp; try with_reducible rfl)
      simp only [List.setIfInBounds_toArray, List.set_cons_zero, List.set_cons_succ]
      refine wpAnyH_ready (rs := [14]) (by kernel_rfl) (by simp) ?_
      refine AllReadyH.cons rfl (fun K hK => ?_) AllReadyH.nil
      go_simp
      go_at_call 55
      refine (HBH _ (drewP (Below.refl _ _))).mono ?_
      rintro e w5 ⟨rfl, hB5'⟩
      have hB5 : Below W.heap.size W w5 := (drewP (Below.refl W.heap.size W)).trans hB5'
      refine hK.out _ _ (SS.out _ hB5) (fun hHeld2 => ?_)
      clear hK hHeld
      try simp only [Act.put, List.setIfInBounds_toArray, List.set_cons_zero, List.set_cons_succ]
      refine take_atR (i := 15) (d := 26) (v := ?vt15) rfl rfl (by kernel_rfl) (by kernel_rfl) (by kernel_rfl) (fun _ _ _ h => h) (Or.inl ⟨by rfl, ?hyt15⟩) (by assumption) ?restt15
      case hyt15 => (intro wq hSw; (try dsimp only at hSw); go_simp; try with_reducible rfl)
      simp only [List.setIfInBounds_toArray, List.set_cons_zero, List.set_cons_succ]
      refine take_atR (i := 16) (d := 42) (v := ?vt16) rfl rfl (by kernel_rfl) (by kernel_rfl) (by kernel_rfl) (fun _ _ _ h => h) (Or.inl ⟨by rfl, ?hyt16⟩) (by assumption) ?restt16
      case hyt16 => (intro wq hSw; (try dsimp only at hSw); go_simp; try with_reducible rfl)
      simp only [List.setIfInBounds_toArray, List.set_cons_zero, List.set_cons_succ]
      refine take_atR (i := 17) (d := 43) (v := ?vt17) rfl rfl (by kernel_rfl) (by kernel_rfl) (by kernel_rfl) (fun _ _ _ h => h) (Or.inl ⟨by rfl, ?hyt17⟩) (by assumption) ?restt17
      case hyt17 => (intro wq hSw; (try dsimp only at hSw); go_simp; try with_reducible rfl)
      simp only [List.setIfInBounds_toArray, List.set_cons_zero, List.set_cons_succ]
      refine take_atR (i := 18) (d := 7) (v := ?vt18) rfl rfl (by kernel_rfl) (by kernel_rfl) (by kernel_rfl) (fun _ _ _ h => h) (Or.inl ⟨by rfl, ?hyt18⟩) (by assumption) ?restt18
      case hyt18 => (intro wq hSw; (try dsimp only at hSw); go_simp; try with_reducible rfl)
      simp only [List.setIfInBounds_toArray, List.set_cons_zero, List.set_cons_succ]
      refine take_atR (i := 19) (d := 8) (v := ?vt19) rfl rfl (by kernel_rfl) (by kernel_rfl) (by kernel_rfl) (fun _ _ _ h => h) (Or.inl ⟨by rfl, ?hyt19⟩) (by assumption) ?restt19
      case hyt19 => (intro wq hSw; (try dsimp only at hSw); go_simp; try with_reducible rfl)
      simp only [List.setIfInBounds_toArray, List.set_cons_zero, List.set_cons_succ]
      refine wpAnyH_done (by kernel_rfl) ?_ _
      clear hHeld2
      clear HBH
      have cx5 := CX.out.below (drewP hB5)
      have hko : KeepsOthers W w5.drew := below_others (drewP hB5)
      obtain ⟨q1, q2, q3, q4, q5, q6⟩ := (CX.out.below hB5).reads
      gi_wp2
      refine wpIn_region_heldR (S := (fun _ => True)) (by kernel_rfl) (by kernel_rfl) (fun ⟨_, _, hq⟩ => hq) (trivial) (fun hHeld => ?_)
      simp only [List.size_toArray, List.length_cons, List.length_nil, Nat.reduceAdd, Array.replicate_succ, Array.replicate_zero, List.push_toArray, List.nil_append, List.cons_append]
      refine take_atR (i := 0) (d := 44) (v := ?vt20) rfl rfl (by kernel_rfl) (by kernel_rfl) (by kernel_rfl) (fun _ _ _ h => h) (Or.inl ⟨by rfl, ?hyt20⟩) (by assumption) ?restt20
      case hyt20 => (intro wq hSw; (try dsimp only at hSw); go_simp; try with_reducible rfl)
      simp only [List.setIfInBounds_toArray, List.set_cons_zero, List.set_cons_succ]
      refine take_atR (i := 1) (d := 45) (v := ?vt21) rfl rfl (by kernel_rfl) (by kernel_rfl) (by kernel_rfl) (fun _ _ _ h => h) (Or.inl ⟨by rfl, ?hyt21⟩) (by assumption) ?restt21
      case hyt21 => (intro wq hSw; (try dsimp only at hSw); go_simp; try with_reducible rfl)
      simp only [List.setIfInBounds_toArray, List.set_cons_zero, List.set_cons_succ]
      refine take_atR (i := 2) (d := 46) (v := ?vt22) rfl rfl (by kernel_rfl) (by kernel_rfl) (by kernel_rfl) (fun _ _ _ h => h) (Or.inl ⟨by rfl, ?hyt22⟩) (by assumption) ?restt22
      case hyt22 => (intro wq hSw; (try dsimp only at hSw); go_simp; try with_reducible rfl)
      simp only [List.setIfInBounds_toArray, List.set_cons_zero, List.set_cons_succ]
      refine take_atR (i := 3) (d := 47) (v := undef) rfl rfl (by kernel_rfl) (by kernel_rfl) (by kernel_rfl) (fun _ _ _ h => h) (unwanted_ifR (j := 2) (d := 46) (b := false) rfl rfl rfl) (by assumption) ?restt23
      simp only [List.setIfInBounds_toArray, List.set_cons_zero, List.set_cons_succ]
      refine take_atR (i := 4) (d := 48) (v := undef) rfl rfl (by kernel_rfl) (by kernel_rfl) (by kernel_rfl) (fun _ _ _ h => h) (unwanted_ifR (j := 2) (d := 46) (b := false) rfl rfl rfl) (by assumption) ?restt24
      simp only [List.setIfInBounds_toArray, List.set_cons_zero, List.set_cons_succ]
      refine take_atR (i := 5) (d := 49) (v := undef) rfl rfl (by kernel_rfl) (by kernel_rfl) (by kernel_rfl) (fun _ _ _ h => h) (unwanted_ifR (j := 2) (d := 46) (b := false) rfl rfl rfl) (by assumption) ?restt25
      simp only [List.setIfInBounds_toArray, List.set_cons_zero, List.set_cons_succ]
      refine take_atR (i := 6) (d := 50) (v := undef) rfl rfl (by kernel_rfl) (by kernel_rfl) (by kernel_rfl) (fun _ _ _ h => h) (unwanted_ifR (j := 2) (d := 46) (b := false) rfl rfl rfl) (by assumption) ?restt26
      simp only [List.setIfInBounds_toArray, List.set_cons_zero, List.set_cons_succ]
      refine take_atR (i := 7) (d := 51) (v := undef) rfl rfl (by kernel_rfl) (by kernel_rfl) (by kernel_rfl) (fun _ _ _ h => h) (unwanted_ifR (j := 2) (d := 46) (b := false) rfl rfl rfl) (by assumption) ?restt27
      simp only [List.setIfInBounds_toArray, List.set_cons_zero, List.set_cons_succ]
      refine take_atR (i := 8) (d := 52) (v := undef) rfl rfl (by kernel_rfl) (by kernel_rfl) (by kernel_rfl) (fun _ _ _ h => h) (unwanted_ifR (j := 2) (d := 46) (b := false) rfl rfl rfl) (by assumption) ?restt28
      simp only [List.setIfInBounds_toArray, List.set_cons_zero, List.set_cons_succ]
      refine take_atR (i := 9) (d := 53) (v := undef) rfl rfl (by kernel_rfl) (by kernel_rfl) (by kernel_rfl) (fun _ _ _ h => h) (unwanted_ifR (j := 2) (d := 46) (b := false) rfl rfl rfl) (by assumption) ?restt29
      simp only [List.setIfInBounds_toArray, List.set_cons_zero, List.set_cons_succ]
      refine take_atR (i := 10) (d := 54) (v := undef) rfl rfl (by kernel_rfl) (by kernel_rfl) (by kernel_rfl) (fun _ _ _ h => h) (unwanted_ifR (j := 2) (d := 46) (b := false) rfl rfl rfl) (by assumption) ?restt30
      simp only [List.setIfInBounds_toArray, List.set_cons_zero, List.set_cons_succ]
      refine take_atR (i := 11) (d := 55) (v := undef) rfl rfl (by kernel_rfl) (by kernel_rfl) (by kernel_rfl) (fun _ _ _ h => h) (unwanted_ifR (j := 2) (d := 46) (b := false) rfl rfl rfl) (by assumption) ?restt31
      simp only [List.setIfInBounds_toArray, List.set_cons_zero, List.set_cons_succ]
      refine take_atR (i := 12) (d := 56) (v := undef) rfl rfl (by kernel_rfl) (by kernel_rfl) (by kernel_rfl) (fun _ _ _ h => h) (unwanted_ifR (j := 2) (d := 46) (b := false) rfl rfl rfl) (by assumption) ?restt32
      simp only [List.setIfInBounds_toArray, List.set_cons_zero, List.set_cons_succ]
      refine take_atR (i := 13) (d := 57) (v := undef) rfl rfl (by kernel_rfl) (by kernel_rfl) (by kernel_rfl) (fun _ _ _ h => h) (unwanted_ifR (j := 2) (d := 46) (b := false) rfl rfl rfl) (by assumption) ?restt33
      simp only [List.setIfInBounds_toArray, List.set_cons_zero, List.set_cons_succ]
      refine take_atR (i := 14) (d := 58) (v := ?vt34) rfl rfl (by kernel_rfl) (by kernel_rfl) (by kernel_rfl) (fun _ _ _ h => h) (Or.inl ⟨by rfl, ?hyt34⟩) (by assumption) ?restt34
      case hyt34 => (intro wq hSw; (try dsimp only at hSw); go_simp; try with_reducible rfl)
      simp only [List.setIfInBounds_toArray, List.set_cons_zero, List.set_cons_succ]
      refine wpAnyH_done (by kernel_rfl) ?_ _
      gi_wp2
      have hnone : stepP f told pc = none := by
        rw [HST.out, if_pos]
        have := HBB.out
        unfold behindB at this
        simp at this
        omega
      have hbad : depthsP f = .error pc := by rw [HRN.out, hnone]
      exact ⟨(hko.trans (KeepsOthers.setCell _ _ _)).from _, rfl, told, _, bs, lst, ks', vs, pc, cx5.fset pc, HI.out.2.2.2, hbad⟩
    | true =>
      simp only [hb, haft] at HBH
      have HBB : Hid _ := hb
      have hn16 := HOK.out.len
      have HD := fun (W' : World) (hB : Below W.heap.size W W') => deepest_ctx (CX.out.below hB) hn16 HI.out.2.2.1
      obtain ⟨D, hD⟩ : ∃ D, (kn ks' (f.code.length + pc)).deep = D := ⟨_, rfl⟩
      simp only [hD] at HD
      have HDD : Hid (deepF ks (path (f.code.length + pc) (f.code.length + pc)) 0 = D) := by
        show _ = D
        rw [← hD]
        exact (RM.out.dn.deep (f.code.length + pc) (by have := HI.out.2.2.1; omega) (by rw [RM.out.tree.len]; have := HI.out.2.2.1; omega)).symm
      clear hb haft hD
      gi_wp2
      refine wpIn_region_heldR (S := (fun W' => W'.cell? ⟨w.heap.size, 0, none⟩ = some (.pointer (some ⟨b0, o, none⟩)) ∧ W'.cell? ⟨b0, o + 5, none⟩ = some (.slice (some ⟨bi, oi, none⟩) n s.ci) ∧ W'.cell? ⟨bi, oi + pc * 2, none⟩ = some (.int .u8 i.op) ∧ W'.cell? ⟨bi, oi + pc * 2 + 1, none⟩ = some (.int .i64 i.a) ∧ W'.cell? ⟨B4, 0, none⟩ = some (.pointer (some ⟨bw, 0, none⟩)) ∧ W'.cell? ⟨bw, 0, none⟩ = some (.slice (some ⟨gt, 0, none⟩) n ct) ∧ W'.cell? ⟨gt, pc, none⟩ = some (.int .i64 d))) (by kernel_rfl) (by kernel_rfl) (fun ⟨_, _, hq⟩ => hq) (SS.out _ (drewP (Below.refl _ _))) (fun hHeld => ?_)
      simp only [List.size_toArray, List.length_cons, List.length_nil, Nat.reduceAdd, Array.replicate_succ, Array.replicate_zero, List.push_toArray, List.nil_append, List.cons_append]
      refine take_atR (i := 0) (d := 27) (v := ?vt35) rfl rfl (by kernel_rfl) (by kernel_rfl) (by kernel_rfl) (fun _ _ _ h => h) (Or.inl ⟨by rfl, ?hyt35⟩) (by assumption) ?restt35
      case hyt35 => (intro wq hSw; (try dsimp only at hSw); go_simp; try with_reducible rfl)
      simp only [List.setIfInBounds_toArray, List.set_cons_zero, List.set_cons_succ]
      refine take_atR (i := 1) (d := 28) (v := ?vt36) rfl rfl (by kernel_rfl) (by kernel_rfl) (by kernel_rfl) (fun _ _ _ h => h) (Or.inl ⟨by rfl, ?hyt36⟩) (by assumption) ?restt36
      case hyt36 => (intro wq hSw; (try dsimp only at hSw); go_simp; try with_reducible rfl)
      simp only [List.setIfInBounds_toArray, List.set_cons_zero, List.set_cons_succ]
      refine take_atR (i := 2) (d := 29) (v := ?vt37) rfl rfl (by kernel_rfl) (by kernel_rfl) (by kernel_rfl) (fun _ _ _ h => h) (Or.inl ⟨by rfl, ?hyt37⟩) (by assumption) ?restt37
      case hyt37 => (intro wq hSw; (try dsimp only at hSw); go_simp; try with_reducible rfl)
      simp only [List.setIfInBounds_toArray, List.set_cons_zero, List.set_cons_succ]
      refine take_atR (i := 3) (d := 30) (v := ?vt38) rfl rfl (by kernel_rfl) (by kernel_rfl) (by kernel_rfl) (fun _ _ _ h => h) (Or.inl ⟨by rfl, ?hyt38⟩) (by assumption) ?restt38
      case hyt38 => (intro wq hSw; (try dsimp only at hSw); go_simp; try with_reducible rfl)
      simp only [List.setIfInBounds_toArray, List.set_cons_zero, List.set_cons_succ]
      refine take_atR (i := 4) (d := 31) (v := ?vt39) rfl rfl (by kernel_rfl) (by kernel_rfl) (by kernel_rfl) (fun _ _ _ h => h) (Or.inl ⟨by rfl, ?hyt39⟩) (by assumption) ?restt39
      case hyt39 => (intro wq hSw; (try dsimp only at hSw); go_simp; try with_reducible rfl)
      simp only [List.setIfInBounds_toArray, List.set_cons_zero, List.set_cons_succ]
      refine take_atR (i := 5) (d := 32) (v := ?vt40) rfl rfl (by kernel_rfl) (by kernel_rfl) (by kernel_rfl) (fun _ _ _ h => h) (Or.inl ⟨by rfl, ?hyt40⟩) (by assumption) ?restt40
      case hyt40 => (intro wq hSw; (try dsimp only at hSw); go_simp; try with_reducible rfl)
      simp only [List.setIfInBounds_toArray, List.set_cons_zero, List.set_cons_succ]
      refine take_atR (i := 6) (d := 33) (v := ?vt41) rfl rfl (by kernel_rfl) (by kernel_rfl) (by kernel_rfl) (fun _ _ _ h => h) (Or.inl ⟨by rfl, ?hyt41⟩) (by assumption) ?restt41
      case hyt41 => (intro wq hSw; (try dsimp only at hSw); go_simp; try with_reducible rfl)
      simp only [List.setIfInBounds_toArray, List.set_cons_zero, List.set_cons_succ]
      refine take_atR (i := 7) (d := 34) (v := ?vt42) rfl rfl (by kernel_rfl) (by kernel_rfl) (by kernel_rfl) (fun _ _ _ h => h) (Or.inl ⟨by rfl, ?hyt42⟩) (by assumption) ?restt42
      case hyt42 => (intro wq hSw; (try dsimp only at hSw); go_simp; try with_reducible rfl)
      simp only [List.setIfInBounds_toArray, List.set_cons_zero, List.set_cons_succ]
      refine take_atR (i := 8) (d := 35) (v := ?vt43) rfl rfl (by kernel_rfl) (by kernel_rfl) (by kernel_rfl) (fun _ _ _ h => h) (Or.inl ⟨by rfl, ?hyt43⟩) (by assumption) ?restt43
      case hyt43 => (intro wq hSw; (try dsimp only at hSw); go_simp; try with_reducible rfl)
      simp only [List.setIfInBounds_toArray, List.set_cons_zero, List.set_cons_succ]
      refine take_atR (i := 9) (d := 36) (v := ?vt44) rfl rfl (by kernel_rfl) (by kernel_rfl) (by kernel_rfl) (fun _ _ _ h => h) (Or.inl ⟨by rfl, ?hyt44⟩) (by assumption) ?restt44
      case hyt44 => (intro wq hSw; (try dsimp only at hSw); go_simp; try with_reducible rfl)
      simp only [List.setIfInBounds_toArray, List.set_cons_zero, List.set_cons_succ]
      refine take_atR (i := 10) (d := 37) (v := ?vt45) rfl rfl (by kernel_rfl) (by kernel_rfl) (by kernel_rfl) (fun _ _ _ h => h) (Or.inl ⟨by rfl, ?hyt45⟩) (by assumption) ?restt45
      case hyt45 => (intro wq hSw; (try dsimp only at hSw); go_simp; try with_reducible rfl)
      simp only [List.setIfInBounds_toArray, List.set_cons_zero, List.set_cons_succ]
      refine take_atR (i := 11) (d := 38) (v := ?vt46) rfl rfl (by kernel_rfl) (by kernel_rfl) (by kernel_rfl) (fun _ _ _ h => h) (Or.inl ⟨by rfl, ?hyt46⟩) (by assumption) ?restt46
      case hyt46 => (intro wq hSw; (try dsimp only at hSw); go_simp; try with_reducible rfl)
      simp only [List.setIfInBounds_toArray, List.set_cons_zero, List.set_cons_succ]
      refine take_atR (i := 12) (d := 39) (v := ?vt47) rfl rfl (by kernel_rfl) (by kernel_rfl) (by kernel_rfl) (fun _ _ _ h => h) (Or.inl ⟨by rfl, ?hyt47⟩) (by assumption) ?restt47
      case hyt47 => (intro wq hSw; (try dsimp only at hSw); go_simp; try with_reducible rfl)
      simp only [List.setIfInBounds_toArray, List.set_cons_zero, List.set_cons_succ]
      refine take_atR (i := 13) (d := 40) (v := ?vt48) rfl rfl (by kernel_rfl) (by kernel_rfl) (by kernel_rfl) (fun _ _ _ h => h) (Or.inl ⟨by rfl, ?hyt48⟩) (by assumption) ?restt48
      case hyt48 => (intro wq hSw; (try dsimp only at hSw); go_simp; try with_reducible rfl)
      simp only [List.setIfInBounds_toArray, List.set_cons_zero, List.set_cons_succ]
      refine wpAnyH_ready (rs := [14]) (by kernel_rfl) (by simp) ?_
      refine AllReadyH.cons rfl (fun K hK => ?_) AllReadyH.nil
      go_simp
      go_at_call 55
      refine (HBH _ (drewP (Below.refl _ _))).mono ?_
      rintro e w5 ⟨rfl, hB5'⟩
      have hB5 : Below W.heap.size W w5 := (drewP (Below.refl W.heap.size W)).trans hB5'
      refine hK.out _ _ (SS.out _ hB5) (fun hHeld2 => ?_)
      clear hK hHeld
      try simp only [Act.put, List.setIfInBounds_toArray, List.set_cons_zero, List.set_cons_succ]
      refine take_atR (i := 15) (d := 26) (v := ?vt49) rfl rfl (by kernel_rfl) (by kernel_rfl) (by kernel_rfl) (fun _ _ _ h => h) (Or.inl ⟨by rfl, ?hyt49⟩) (by assumption) ?restt49
      case hyt49 => (intro wq hSw; (try dsimp only at hSw); go_simp; try with_reducible rfl)
      simp only [List.setIfInBounds_toArray, List.set_cons_zero, List.set_cons_succ]
      refine take_atR (i := 16) (d := 42) (v := ?vt50) rfl rfl (by kernel_rfl) (by kernel_rfl) (by kernel_rfl) (fun _ _ _ h => h) (Or.inl ⟨by rfl, ?hyt50⟩) (by assumption) ?restt50
      case hyt50 => (intro wq hSw; (try dsimp only at hSw); go_simp; try with_reducible rfl)
      simp only [List.setIfInBounds_toArray, List.set_cons_zero, List.set_cons_succ]
      refine take_atR (i := 17) (d := 43) (v := ?vt51) rfl rfl (by kernel_rfl) (by kernel_rfl) (by kernel_rfl) (fun _ _ _ h => h) (Or.inl ⟨by rfl, ?hyt51⟩) (by assumption) ?restt51
      case hyt51 => (intro wq hSw; (try dsimp only at hSw); go_simp; try with_reducible rfl)
      simp only [List.setIfInBounds_toArray, List.set_cons_zero, List.set_cons_succ]
      refine take_atR (i := 18) (d := 7) (v := ?vt52) rfl rfl (by kernel_rfl) (by kernel_rfl) (by kernel_rfl) (fun _ _ _ h => h) (Or.inl ⟨by rfl, ?hyt52⟩) (by assumption) ?restt52
      case hyt52 => (intro wq hSw; (try dsimp only at hSw); go_simp; try with_reducible rfl)
      simp only [List.setIfInBounds_toArray, List.set_cons_zero, List.set_cons_succ]
      refine take_atR (i := 19) (d := 8) (v := ?vt53) rfl rfl (by kernel_rfl) (by kernel_rfl) (by kernel_rfl) (fun _ _ _ h => h) (Or.inl ⟨by rfl, ?hyt53⟩) (by assumption) ?restt53
      case hyt53 => (intro wq hSw; (try dsimp only at hSw); go_simp; try with_reducible rfl)
      simp only [List.setIfInBounds_toArray, List.set_cons_zero, List.set_cons_succ]
      refine wpAnyH_done (by kernel_rfl) ?_ _
      clear hHeld2
      clear HBH
      have cx5 := CX.out.below (drewP hB5)
      have hko : KeepsOthers W w5.drew := below_others (drewP hB5)
      have S8 : Hid ((fun W' => W'.cell? ⟨B5, 0, none⟩ = some (.slice gp gl gc) ∧ W'.cell? ⟨B4, 0, none⟩ = some (.pointer (some ⟨bw, 0, none⟩)) ∧ W'.cell? ⟨bw, 0, none⟩ = some (.slice (some ⟨gt, 0, none⟩) n ct) ∧ W'.cell? ⟨gt, pc, none⟩ = some (.int .i64 d)) w5.drew) := by
        obtain ⟨p1, p2, p3, p4, p5, p6⟩ := cx5.reads
        obtain ⟨r1, r2, r3, r4, r5, r6, r7⟩ := SS.out _ (drewP hB5)
        exact ⟨p4, r5, r6, r7⟩
      have HD5 := HD _ (drewP hB5)
      have CX5 : Hid _ := cx5
      have HKO : Hid _ := hko
      clear HD cx5 hko
      gi_wp2
      refine wpIn_region_heldR (S := (fun W' => W'.cell? ⟨B5, 0, none⟩ = some (.slice gp gl gc) ∧ W'.cell? ⟨B4, 0, none⟩ = some (.pointer (some ⟨bw, 0, none⟩)) ∧ W'.cell? ⟨bw, 0, none⟩ = some (.slice (some ⟨gt, 0, none⟩) n ct) ∧ W'.cell? ⟨gt, pc, none⟩ = some (.int .i64 d))) (by kernel_rfl) (by kernel_rfl) (fun ⟨_, _, hq⟩ => hq) (S8.out) (fun hHeld => ?_)
      simp only [List.size_toArray, List.length_cons, List.length_nil, Nat.reduceAdd, Array.replicate_succ, Array.replicate_zero, List.push_toArray, List.nil_append, List.cons_append]
      refine take_atR (i := 0) (d := 44) (v := ?vt54) rfl rfl (by kernel_rfl) (by kernel_rfl) (by kernel_rfl) (fun _ _ _ h => h) (Or.inl ⟨by rfl, ?hyt54⟩) (by assumption) ?restt54
      case hyt54 => (intro wq hSw; (try dsimp only at hSw); go_simp; try with_reducible rfl)
      simp only [List.setIfInBounds_toArray, List.set_cons_zero, List.set_cons_succ]
      refine take_atR (i := 1) (d := 45) (v := ?vt55) rfl rfl (by kernel_rfl) (by kernel_rfl) (by kernel_rfl) (fun _ _ _ h => h) (Or.inl ⟨by rfl, ?hyt55⟩) (by assumption) ?restt55
      case hyt55 => (intro wq hSw; (try dsimp only at hSw); go_simp; try with_reducible rfl)
      simp only [List.setIfInBounds_toArray, List.set_cons_zero, List.set_cons_succ]
      refine take_atR (i := 2) (d := 46) (v := ?vt56) rfl rfl (by kernel_rfl) (by kernel_rfl) (by kernel_rfl) (fun _ _ _ h => h) (Or.inl ⟨by rfl, ?hyt56⟩) (by assumption) ?restt56
      case hyt56 => (intro wq hSw; (try dsimp only at hSw); go_simp; try with_reducible rfl)
      simp only [List.setIfInBounds_toArray, List.set_cons_zero, List.set_cons_succ]
      refine take_atR (i := 3) (d := 47) (v := ?vt57) rfl rfl (by kernel_rfl) (by kernel_rfl) (by kernel_rfl) (fun _ _ _ h => h) (Or.inl ⟨by rfl, ?hyt57⟩) (by assumption) ?restt57
      case hyt57 => (intro wq hSw; (try dsimp only at hSw); go_simp; try with_reducible rfl)
      simp only [List.setIfInBounds_toArray, List.set_cons_zero, List.set_cons_succ]
      refine take_atR (i := 4) (d := 48) (v := ?vt58) rfl rfl (by kernel_rfl) (by kernel_rfl) (by kernel_rfl) (fun _ _ _ h => h) (Or.inl ⟨by rfl, ?hyt58⟩) (by assumption) ?restt58
      case hyt58 => (intro wq hSw; (try dsimp only at hSw); go_simp; try with_reducible rfl)
      simp only [List.setIfInBounds_toArray, List.set_cons_zero, List.set_cons_succ]
      refine take_atR (i := 6) (d := 50) (v := ?vt59) rfl rfl (by kernel_rfl) (by kernel_rfl) (by kernel_rfl) (fun _ _ _ h => h) (Or.inl ⟨by rfl, ?hyt59⟩) (by assumption) ?restt59
      case hyt59 => (intro wq hSw; (try dsimp only at hSw); go_simp; try with_reducible rfl)
      simp only [List.setIfInBounds_toArray, List.set_cons_zero, List.set_cons_succ]
      refine take_atR (i := 7) (d := 51) (v := ?vt60) rfl rfl (by kernel_rfl) (by kernel_rfl) (by kernel_rfl) (fun _ _ _ h => h) (Or.inl ⟨by rfl, ?hyt60⟩) (by assumption) ?restt60
      case hyt60 => (intro wq hSw; (try dsimp only at hSw); go_simp; try with_reducible rfl)
      simp only [List.setIfInBounds_toArray, List.set_cons_zero, List.set_cons_succ]
      refine take_atR (i := 8) (d := 52) (v := ?vt61) rfl rfl (by kernel_rfl) (by kernel_rfl) (by kernel_rfl) (fun _ _ _ h => h) (Or.inl ⟨by rfl, ?hyt61⟩) (by assumption) ?restt61
      case hyt61 => (intro wq hSw; (try dsimp only at hSw); go_simp; try with_reducible rfl)
      simp only [List.setIfInBounds_toArray, List.set_cons_zero, List.set_cons_succ]
      refine take_atR (i := 9) (d := 53) (v := ?vt62) rfl rfl (by kernel_rfl) (by kernel_rfl) (by kernel_rfl) (fun _ _ _ h => h) (Or.inl ⟨by rfl, ?hyt62⟩) (by assumption) ?restt62
      case hyt62 => (intro wq hSw; (try dsimp only at hSw); go_simp; try with_reducible rfl)
      simp only [List.setIfInBounds_toArray, List.set_cons_zero, List.set_cons_succ]
      refine take_atR (i := 10) (d := 54) (v := ?vt63) rfl rfl (by kernel_rfl) (by kernel_rfl) (by kernel_rfl) (fun _ _ _ h => h) (Or.inl ⟨by rfl, ?hyt63⟩) (by assumption) ?restt63
      case hyt63 => (intro wq hSw; (try dsimp only at hSw); go_simp; try with_reducible rfl)
      simp only [List.setIfInBounds_toArray, List.set_cons_zero, List.set_cons_succ]
      refine take_atR (i := 11) (d := 55) (v := ?vt64) rfl rfl (by kernel_rfl) (by kernel_rfl) (by kernel_rfl) (fun _ _ _ h => h) (Or.inl ⟨by rfl, ?hyt64⟩) (by assumption) ?restt64
      case hyt64 => (intro wq hSw; (try dsimp only at hSw); go_simp; try with_reducible rfl)
      simp only [List.setIfInBounds_toArray, List.set_cons_zero, List.set_cons_succ]
      refine take_atR (i := 12) (d := 56) (v := ?vt65) rfl rfl (by kernel_rfl) (by kernel_rfl) (by kernel_rfl) (fun _ _ _ h => h) (Or.inl ⟨by rfl, ?hyt65⟩) (by assumption) ?restt65
      case hyt65 => (intro wq hSw; (try dsimp only at hSw); go_simp; try with_reducible rfl)
      simp only [List.setIfInBounds_toArray, List.set_cons_zero, List.set_cons_succ]
      refine wpAnyH_ready (rs := [5]) (by kernel_rfl) (by simp) ?_
      refine AllReadyH.cons rfl (fun K hK => ?_) AllReadyH.nil
      go_simp
      go_at_call 56
      refine HD5.mono ?_
      rintro e w6 ⟨rfl, rfl⟩
      refine hK.out _ _ (hHeld) (fun hHeld2 => ?_)
      clear hK hHeld
      try simp only [Act.put, List.setIfInBounds_toArray, List.set_cons_zero, List.set_cons_succ]
      refine take_atR (i := 13) (d := 57) (v := ?vt66) rfl rfl (by kernel_rfl) (by kernel_rfl) (by kernel_rfl) (fun _ _ _ h => h) (Or.inl ⟨by rfl, ?hyt66⟩) (by assumption) ?restt66
      case hyt66 => (intro wq hSw; (try dsimp only at hSw); go_simp; try with_reducible rfl)
      simp only [List.setIfInBounds_toArray, List.set_cons_zero, List.set_cons_succ]
      refine take_atR (i := 14) (d := 58) (v := ?vt67) rfl rfl (by kernel_rfl) (by kernel_rfl) (by kernel_rfl) (fun _ _ _ h => h) (Or.inl ⟨by rfl, ?hyt67⟩) (by assumption) ?restt67
      case hyt67 => (intro wq hSw; (try dsimp only at hSw); go_simp; try with_reducible rfl)
      simp only [List.setIfInBounds_toArray, List.set_cons_zero, List.set_cons_succ]
      refine wpAnyH_done (by kernel_rfl) ?_ _
      clear hHeld2
      obtain ⟨q1, q2, q3, q4, q5, q6⟩ := CX5.out.reads
      by_cases hdD : d < D
      · gi_wp2
        have hnone : stepP f told pc = none := by
          rw [HST.out, if_pos]
          refine .inr (.inr (.inr ?_))
          show d < deepF ks (path (f.code.length + pc) (f.code.length + pc)) 0
          rw [HDD.out]
          exact hdD
        have hbad : depthsP f = .error pc := by rw [HRN.out, hnone]
        exact ⟨(HKO.out.trans (KeepsOthers.setCell _ _ _)).from _, rfl, told, _, bs, lst, ks', vs, pc, CX5.out.fset pc, HI.out.2.2.2, hbad⟩
      · have hdD' : ¬ (d < D) := hdD
        obtain ⟨L, hL⟩ : ∃ L, newsF ks (path (f.code.length + pc) (f.code.length + pc)) = L := ⟨_, rfl⟩
        have HNW := news_ctx CX5.out hn16 HI.out.2.2.1 (fun y => by rw [RM.out.dn.hs y]; exact Nat.le_trans (RM.out.lens y) (by omega))
        rw [newsF_same RM.out.dn.hs, hL] at HNW
        have HLL : Hid _ := hL
        clear hL HD5 hB5 hB5'
        gi_wp2_with (first
          | (refine ⟨trivial, ?_⟩; gi_at_call 57; refine (CallsIn.inRound l (callsIn_wide.2 HNW)).mono ?_; clear HNW; rintro e w7 ⟨v7, vs7, rfl, hr7, cx7, ko7⟩; refine haltP ?_))
        unfold HaltP
        have hpl := HI.out.2.2.1
        have hni := news_iff HOK.out RM.out.tree hpl
        have hup : upP f pc = path (f.code.length + pc) (f.code.length + pc) := rfl
        rw [hup, HLL.out] at hni
        have hLm : ∀ m ∈ L, ∃ h, f.hs[m]? = some h := fun m hm => by obtain ⟨h, h1, _⟩ := hni.1 m hm; exact ⟨h, h1⟩
        have hdb : takesP i ≤ d ∧ after ≤ 256 ∧ (i.op ≠ 21 ∨ d = 0) := by
          have h1 := HBB.out
          unfold behindB at h1
          rw [HAF.out] at h1
          simpa using h1
        have hstep2 : Hid (stepP f told pc = tellsP (L.map (htell f) ++ (nextsP i pc).map (fun q => (q, after))) told) := by
          show stepP f told pc = _
          rw [HST.out, if_neg]
          · unfold ptell
            rw [hup, HLL.out, HAF.out]
          · have h1 := HAF.out
            rw [hup, HDD.out]
            omega
        have hLl : L.length ≤ 17179869184 := by
          rw [← HLL.out]
          have h1 := newsF_len ks (b := 524288) RM.out.lens (path (f.code.length + pc) (f.code.length + pc))
          have h2 := path_len (j := 16) (k := f.code.length + pc) (x := f.code.length + pc) (by omega)
          have h3 := Nat.mul_le_mul_right 524288 h2
          omega
        obtain ⟨KS, hKS⟩ : ∃ KS, clrF ks' (path (f.code.length + pc) (f.code.length + pc)) = KS := ⟨_, rfl⟩
        rw [hKS] at cx7
        have HKS : Hid _ := hKS
        have rs0 : Rs w W w7 b0 o bw gt ct gb cb f.code.length (.slice gp gl gc) B4 B5 (taken.set pc true) told KS vs7 w5.drew.heap.size v7 L ((L.take 0).map (htell f)) told bs lst :=
          ⟨cx7, HKO.out.trans ko7, hr7, ⟨CX5.out.st.wk.lt, CX5.out.st.wk.tr.lt.2, CX5.out.st.wk.br.lt.2⟩, rfl⟩
        obtain ⟨p7, c7, rfl, -, -, hp7⟩ := row_form hr7
        have HLM : Hid _ := hLm
        have HNI : Hid _ := hni
        have HDB : Hid _ := hdb
        clear hr7 cx7 ko7 hLm hni hup hdD hdD' hdb hKS q1 q2 q3 q4 q5 q6 hpl
        gi_wp2
        gi_loopw [64] (fun k wr => ∃ (j : Nat) (told' : List Int) (bs' : List Nat) (lst' : Nat), k = .int .i64 j ∧ j ≤ L.length ∧ Rs w W wr b0 o bw gt ct gb cb f.code.length (.slice gp gl gc) B4 B5 (taken.set pc true) told KS vs7 w5.drew.heap.size (.slice p7 L.length c7) L ((L.take j).map (htell f)) told' bs' lst') (fun k _ => L.length - (intOf k).toNat)
        case atStart => exact ⟨0, told, bs, lst, rfl, by omega, rs0⟩
        case round =>
          clear rs0
          obtain ⟨j, told1, bs1, lst1, rfl, hj, rs⟩ := hrel
          have RS : Hid _ := rs
          by_cases hjl : j < L.length
          · have hjl' : (j : Int) < (L.length : Int) := by omega
            obtain ⟨mm, hm⟩ : ∃ mm, L[j]? = some mm := ⟨L[j], by simp⟩
            obtain ⟨h, hh⟩ := HLM.out mm (List.mem_of_getElem? hm)
            obtain ⟨a1, a2, a3, a4, a5, a6⟩ := HOK.out.hs h (List.mem_of_getElem? hh)
            obtain ⟨A, hA⟩ : ∃ A : Nat, h.at_ = (A : Int) := ⟨h.at_.toNat, by omega⟩
            obtain ⟨g7, rfl⟩ := hp7 (by omega)
            have cL : wr.cell? ⟨g7, j, none⟩ = some (.int .i64 mm) := nrow_cell rs.row hm
            obtain ⟨bh, oh, hqh, -, -, -, -⟩ := (HP.out.below rs.cx.bel).fn.hs.lookH (Below.refl _ _) hh
            have SF : Hid (∀ W' : World, Below w.heap.size w W' → W'.cell? ⟨b0, o + 7, none⟩ = some (.slice (some ⟨bh, oh, none⟩) f.hs.length s.ch) ∧ W'.cell? ⟨bh, oh + mm * 4 + 2, none⟩ = some (.int .i64 A) ∧ W'.cell? ⟨bh, oh + mm * 4 + 3, none⟩ = some (.int .i64 h.deep)) := fun W' hB => by
              have f1 := HP.out.below hB
              have c7 := f1.cell 7 _ rfl
              obtain ⟨b1, o1, e1, _, _, q3, q4⟩ := f1.fn.hs.lookH (Below.refl _ _) hh
              rw [hqh] at e1
              simp only [Option.some.injEq, Addr.mk.injEq] at e1
              obtain ⟨rfl, rfl, _⟩ := e1
              rw [hA] at q3
              exact ⟨by rw [c7, hqh], q3, q4⟩
            have HTL2 := fun (W' : World) (hB : Below wr.heap.size wr W') => ptell_in (rs.cx.below hB).st hn16 A (by omega) (h.deep + 1) (by omega)
            have hml : (mm : Int) < (f.hs.length : Int) := by have := (List.getElem?_eq_some_iff.1 hh).1; omega
            have HJ : Hid (L[j]? = some mm ∧ f.hs[mm]? = some h ∧ h.at_ = (A : Int)) := ⟨hm, hh, hA⟩
            have hhs2 := HOK.out.hsn
            have hwr : IntKind.i64.wrap (h.deep + 1) = h.deep + 1 := by rw [IntKind.wrap_i64]; omega
            have ST13 : Hid (∀ (W' : World) (told'' : List Int) (bs'' : List Nat) (lst'' : Nat), Ctx w W' b0 o bw gt ct gb cb f.code.length (.slice gp gl gc) B4 B5 (-1) told'' (taken.set pc true) bs'' lst'' KS vs7 → (fun W' => W'.cell? ⟨B4, 0, none⟩ = some (.pointer (some ⟨bw, 0, none⟩)) ∧ W'.cell? ⟨w.heap.size, 0, none⟩ = some (.pointer (some ⟨b0, o, none⟩)) ∧ W'.cell? ⟨b0, o + 7, none⟩ = some (.slice (some ⟨bh, oh, none⟩) f.hs.length s.ch) ∧ W'.cell? ⟨bh, oh + mm * 4 + 2, none⟩ = some (.int .i64 A) ∧ W'.cell? ⟨bh, oh + mm * 4 + 3, none⟩ = some (.int .i64 h.deep)) W') := fun W' t'' bs'' lst'' hc => by
              obtain ⟨r1, r2, r3, r4, r5, r6⟩ := hc.reads
              obtain ⟨s1, s2, s3⟩ := SF.out W' hc.bel
              exact ⟨r3, r1, s1, s2, s3⟩
            clear rs hm hh hqh hA a3 a4 SF
            gi_wp2
            refine wpIn_region_heldR (S := (fun W' => W'.cell? ⟨B4, 0, none⟩ = some (.pointer (some ⟨bw, 0, none⟩)) ∧ W'.cell? ⟨w.heap.size, 0, none⟩ = some (.pointer (some ⟨b0, o, none⟩)) ∧ W'.cell? ⟨b0, o + 7, none⟩ = some (.slice (some ⟨bh, oh, none⟩) f.hs.length s.ch) ∧ W'.cell? ⟨bh, oh + mm * 4 + 2, none⟩ = some (.int .i64 A) ∧ W'.cell? ⟨bh, oh + mm * 4 + 3, none⟩ = some (.int .i64 h.deep))) (by kernel_rfl) (by kernel_rfl) (fun ⟨_, _, hq⟩ => hq) (ST13.out _ _ _ _ (RS.out.cx.below (drewP (Below.refl _ _)))) (fun hHeld => ?_)
            simp only [List.size_toArray, List.length_cons, List.length_nil, Nat.reduceAdd, Array.replicate_succ, Array.replicate_zero, List.push_toArray, List.nil_append, List.cons_append]
            refine take_atR (i := 0) (d := 68) (v := ?vt68) rfl rfl (by kernel_rfl) (by kernel_rfl) (by kernel_rfl) (fun _ _ _ h => h) (Or.inl ⟨by rfl, ?hyt68⟩) (by assumption) ?restt68
            case hyt68 => (intro wq hSw; (try dsimp only at hSw); go_simp; try with_reducible rfl)
            simp only [List.setIfInBounds_toArray, List.set_cons_zero, List.set_cons_succ]
            refine take_atR (i := 1) (d := 69) (v := ?vt69) rfl rfl (by kernel_rfl) (by kernel_rfl) (by kernel_rfl) (fun _ _ _ h => h) (Or.inl ⟨by rfl, ?hyt69⟩) (by assumption) ?restt69
            case hyt69 => (intro wq hSw; (try dsimp only at hSw); go_simp; try with_reducible rfl)
            simp only [List.setIfInBounds_toArray, List.set_cons_zero, List.set_cons_succ]
            refine take_atR (i := 2) (d := 70) (v := ?vt70) rfl rfl (by kernel_rfl) (by kernel_rfl) (by kernel_rfl) (fun _ _ _ h => h) (Or.inl ⟨by rfl, ?hyt70⟩) (by assumption) ?restt70
            case hyt70 => (intro wq hSw; (try dsimp only at hSw); go_simp; try with_reducible rfl)
            simp only [List.setIfInBounds_toArray, List.set_cons_zero, List.set_cons_succ]
            refine take_atR (i := 3) (d := 71) (v := ?vt71) rfl rfl (by kernel_rfl) (by kernel_rfl) (by kernel_rfl) (fun _ _ _ h => h) (Or.inl ⟨by rfl, ?hyt71⟩) (by assumption) ?restt71
            case hyt71 => (intro wq hSw; (try dsimp only at hSw); go_simp; try with_reducible rfl)
            simp only [List.setIfInBounds_toArray, List.set_cons_zero, List.set_cons_succ]
            refine take_atR (i := 4) (d := 72) (v := ?vt72) rfl rfl (by kernel_rfl) (by kernel_rfl) (by kernel_rfl) (fun _ _ _ h => h) (Or.inl ⟨by rfl, ?hyt72⟩) (by assumption) ?restt72
            case hyt72 => (intro wq hSw; (try dsimp only at hSw); go_simp; try with_reducible rfl)
            simp only [List.setIfInBounds_toArray, List.set_cons_zero, List.set_cons_succ]
            refine take_atR (i := 5) (d := 73) (v := ?vt73) rfl rfl (by kernel_rfl) (by kernel_rfl) (by kernel_rfl) (fun _ _ _ h => h) (Or.inl ⟨by rfl, ?hyt73⟩) (by assumption) ?restt73
            case hyt73 => (intro wq hSw; (try dsimp only at hSw); go_simp; try with_reducible rfl)
            simp only [List.setIfInBounds_toArray, List.set_cons_zero, List.set_cons_succ]
            refine take_atR (i := 6) (d := 74) (v := ?vt74) rfl rfl (by kernel_rfl) (by kernel_rfl) (by kernel_rfl) (fun _ _ _ h => h) (Or.inl ⟨by rfl, ?hyt74⟩) (by assumption) ?restt74
            case hyt74 => (intro wq hSw; (try dsimp only at hSw); go_simp; try with_reducible rfl)
            simp only [List.setIfInBounds_toArray, List.set_cons_zero, List.set_cons_succ]
            refine take_atR (i := 7) (d := 75) (v := ?vt75) rfl rfl (by kernel_rfl) (by kernel_rfl) (by kernel_rfl) (fun _ _ _ h => h) (Or.inl ⟨by rfl, ?hyt75⟩) (by assumption) ?restt75
            case hyt75 => (intro wq hSw; (try dsimp only at hSw); go_simp; try with_reducible rfl)
            simp only [List.setIfInBounds_toArray, List.set_cons_zero, List.set_cons_succ]
            refine take_atR (i := 8) (d := 76) (v := ?vt76) rfl rfl (by kernel_rfl) (by kernel_rfl) (by kernel_rfl) (fun _ _ _ h => h) (Or.inl ⟨by rfl, ?hyt76⟩) (by assumption) ?restt76
            case hyt76 => (intro wq hSw; (try dsimp only at hSw); go_simp; try with_reducible rfl)
            simp only [List.setIfInBounds_toArray, List.set_cons_zero, List.set_cons_succ]
            refine take_atR (i := 9) (d := 77) (v := ?vt77) rfl rfl (by kernel_rfl) (by kernel_rfl) (by kernel_rfl) (fun _ _ _ h => h) (Or.inl ⟨by rfl, ?hyt77⟩) (by assumption) ?restt77
            case hyt77 => (intro wq hSw; (try dsimp only at hSw); go_simp; try with_reducible rfl)
            simp only [List.setIfInBounds_toArray, List.set_cons_zero, List.set_cons_succ]
            refine take_atR (i := 10) (d := 78) (v := ?vt78) rfl rfl (by kernel_rfl) (by kernel_rfl) (by kernel_rfl) (fun _ _ _ h => h) (Or.inl ⟨by rfl, ?hyt78⟩) (by assumption) ?restt78
            case hyt78 => (intro wq hSw; (try dsimp only at hSw); go_simp; try with_reducible rfl)
            simp only [List.setIfInBounds_toArray, List.set_cons_zero, List.set_cons_succ]
            refine take_atR (i := 11) (d := 79) (v := ?vt79) rfl rfl (by kernel_rfl) (by kernel_rfl) (by kernel_rfl) (fun _ _ _ h => h) (Or.inl ⟨by rfl, ?hyt79⟩) (by assumption) ?restt79
            case hyt79 => (intro wq hSw; (try dsimp only at hSw); go_simp; try with_reducible rfl)
            simp only [List.setIfInBounds_toArray, List.set_cons_zero, List.set_cons_succ]
            refine take_atR (i := 12) (d := 80) (v := ?vt80) rfl rfl (by kernel_rfl) (by kernel_rfl) (by kernel_rfl) (fun _ _ _ h => h) (Or.inl ⟨by rfl, ?hyt80⟩) (by assumption) ?restt80
            case hyt80 => (intro wq hSw; (try dsimp only at hSw); go_simp; try with_reducible rfl)
            simp only [List.setIfInBounds_toArray, List.set_cons_zero, List.set_cons_succ]
            refine take_atR (i := 13) (d := 81) (v := ?vt81) rfl rfl (by kernel_rfl) (by kernel_rfl) (by kernel_rfl) (fun _ _ _ h => h) (Or.inl ⟨by rfl, ?hyt81⟩) (by assumption) ?restt81
            case hyt81 => (intro wq hSw; (try dsimp only at hSw); go_simp; try with_reducible rfl)
            simp only [List.setIfInBounds_toArray, List.set_cons_zero, List.set_cons_succ]
            refine take_atR (i := 14) (d := 82) (v := ?vt82) rfl rfl (by kernel_rfl) (by kernel_rfl) (by kernel_rfl) (fun _ _ _ h => h) (Or.inl ⟨by rfl, ?hyt82⟩) (by assumption) ?restt82
            case hyt82 => (intro wq hSw; (try dsimp only at hSw); go_simp; try with_reducible rfl)
            simp only [List.setIfInBounds_toArray, List.set_cons_zero, List.set_cons_succ]
            refine take_atR (i := 15) (d := 83) (v := ?vt83) rfl rfl (by kernel_rfl) (by kernel_rfl) (by kernel_rfl) (fun _ _ _ h => h) (Or.inl ⟨by rfl, ?hyt83⟩) (by assumption) ?restt83
            case hyt83 => (intro wq hSw; (try dsimp only at hSw); go_simp; try with_reducible rfl)
            simp only [List.setIfInBounds_toArray, List.set_cons_zero, List.set_cons_succ]
            refine take_atR (i := 16) (d := 84) (v := ?vt84) rfl rfl (by kernel_rfl) (by kernel_rfl) (by kernel_rfl) (fun _ _ _ h => h) (Or.inl ⟨by rfl, ?hyt84⟩) (by assumption) ?restt84
            case hyt84 => (intro wq hSw; (try dsimp only at hSw); go_simp; try with_reducible rfl)
            simp only [List.setIfInBounds_toArray, List.set_cons_zero, List.set_cons_succ]
            refine take_atR (i := 17) (d := 85) (v := ?vt85) rfl rfl (by kernel_rfl) (by kernel_rfl) (by kernel_rfl) (fun _ _ _ h => h) (Or.inl ⟨by rfl, ?hyt85⟩) (by assumption) ?restt85
            case hyt85 => (intro wq hSw; (try dsimp only at hSw); go_simp; try with_reducible rfl)
            simp only [List.setIfInBounds_toArray, List.set_cons_zero, List.set_cons_succ]
            refine wpAnyH_ready (rs := [18]) (by kernel_rfl) (by simp) ?_
            refine AllReadyH.cons rfl (fun K hK => ?_) AllReadyH.nil
            go_simp
            go_at_call 53
            refine (HTL2 _ (drewP (Below.refl _ _))).mono ?_
            rintro e w8 ⟨b8, rfl, htp⟩
            obtain ⟨told2, bs2, lst2, cx8, ko8, hc8⟩ := RS.out.next (drewP (Below.refl _ _)) htp
            refine hK.out _ _ (ST13.out _ _ _ _ cx8) (fun hHeld2 => ?_)
            clear hK hHeld
            try simp only [Act.put, List.setIfInBounds_toArray, List.set_cons_zero, List.set_cons_succ]
            refine take_atR (i := 19) (d := 87) (v := ?vt86) rfl rfl (by kernel_rfl) (by kernel_rfl) (by kernel_rfl) (fun _ _ _ h => h) (Or.inl ⟨by rfl, ?hyt86⟩) (by assumption) ?restt86
            case hyt86 => (intro wq hSw; (try dsimp only at hSw); go_simp; try with_reducible rfl)
            simp only [List.setIfInBounds_toArray, List.set_cons_zero, List.set_cons_succ]
            refine wpAnyH_done (by kernel_rfl) ?_ _
            clear hHeld2
            obtain ⟨q1, q2, q3, q4, q5, q6⟩ := cx8.reads
            have CX8 : Hid _ := cx8
            have KO8 : Hid _ := ko8
            clear HTL2 ST13 cx8 ko8 htp
            rcases hc8 with ⟨rfl, rs9⟩ | ⟨rfl, hno⟩
            · have RS9 : Hid _ := rs9
              clear rs9
              gi_wp2
              go_roundw
              case rel =>
                obtain ⟨x1, x2, x3⟩ := HJ.out
                have hx := RS9.out
                rw [← take_map x1 x2 x3] at hx
                exact ⟨j + 1, _, _, _, by simp, by omega, hx⟩
              case measure => simp [intOf]; omega
            · have HNO : Hid _ := hno
              clear hno
              gi_wp2
              obtain ⟨x1, x2, x3⟩ := HJ.out
              have hnone : stepP f told pc = none := by
                rw [hstep2.out, split_map (L := L) (j + 1), take_map x1 x2 x3, List.append_assoc]
                exact tells_none' HNO.out
              have hbad : depthsP f = .error pc := by rw [HRN.out, hnone]
              exact ⟨(KO8.out.trans (KeepsOthers.setCell _ _ _)).from _, rfl, _, _, _, _, _, _, pc, CX8.out.fset pc, CX8.out.st.qb.tl, hbad⟩
          · have hjl' : ¬ ((j : Int) < (L.length : Int)) := by omega
            obtain rfl : j = L.length := by omega
            have hr := takes_range HOK.out HI.out.1
            have haf : 0 ≤ after := by
              have h1 := HDB.out.1
              have h2 := HAF.out
              omega
            have HNX := fun (W' : World) (hB : Below wr.heap.size wr W') => pnext_in (RS.out.cx.below hB).st hn16 i ho pc after haf (nexts_lt HOK.out HI.out.1) (nexts_a HOK.out HI.out.1) (HT.out.below (RS.out.cx.below hB).bel)
            obtain ⟨bj, oj, hqj, -, -⟩ := (HP.out.below RS.out.cx.bel).fn.code.look2 (Below.refl _ _) HI.out.1
            have ST16 : Hid (∀ (W' : World) (told'' : List Int) (bs'' : List Nat) (lst'' : Nat), Ctx w W' b0 o bw gt ct gb cb f.code.length (.slice gp gl gc) B4 B5 (-1) told'' (taken.set pc true) bs'' lst'' KS vs7 → (fun W' => W'.cell? ⟨B4, 0, none⟩ = some (.pointer (some ⟨bw, 0, none⟩)) ∧ W'.cell? ⟨w.heap.size, 0, none⟩ = some (.pointer (some ⟨b0, o, none⟩)) ∧ W'.cell? ⟨b0, o + 5, none⟩ = some (.slice (some ⟨bj, oj, none⟩) n s.ci) ∧ W'.cell? ⟨bj, oj + pc * 2, none⟩ = some (.int .u8 i.op) ∧ W'.cell? ⟨bj, oj + pc * 2 + 1, none⟩ = some (.int .i64 i.a)) W') := fun W' t'' bs'' lst'' hc => by
              obtain ⟨r1, r2, r3, r4, r5, r6⟩ := hc.reads
              have f1 := HP.out.below hc.bel
              have c5 := f1.cell 5 _ rfl
              obtain ⟨b1, o1, e1, a1, a2⟩ := f1.fn.code.look2 (Below.refl _ _) HI.out.1
              rw [hqj] at e1
              simp only [Option.some.injEq, Addr.mk.injEq] at e1
              obtain ⟨rfl, rfl, _⟩ := e1
              exact ⟨r3, r1, by rw [c5, hqj, HN.out], a1, a2⟩
            clear rs hjl hj hp7 hr haf hqj
            gi_wp2
            refine wpIn_region_heldR (S := (fun W' => W'.cell? ⟨B4, 0, none⟩ = some (.pointer (some ⟨bw, 0, none⟩)) ∧ W'.cell? ⟨w.heap.size, 0, none⟩ = some (.pointer (some ⟨b0, o, none⟩)) ∧ W'.cell? ⟨b0, o + 5, none⟩ = some (.slice (some ⟨bj, oj, none⟩) n s.ci) ∧ W'.cell? ⟨bj, oj + pc * 2, none⟩ = some (.int .u8 i.op) ∧ W'.cell? ⟨bj, oj + pc * 2 + 1, none⟩ = some (.int .i64 i.a))) (by kernel_rfl) (by kernel_rfl) (fun ⟨_, _, hq⟩ => hq) (ST16.out _ _ _ _ (RS.out.cx.below (drewP (Below.refl _ _)))) (fun hHeld => ?_)
            simp only [List.size_toArray, List.length_cons, List.length_nil, Nat.reduceAdd, Array.replicate_succ, Array.replicate_zero, List.push_toArray, List.nil_append, List.cons_append]
            refine take_atR (i := 0) (d := 90) (v := ?vt87) rfl rfl (by kernel_rfl) (by kernel_rfl) (by kernel_rfl) (fun _ _ _ h => h) (Or.inl ⟨by rfl, ?hyt87⟩) (by assumption) ?restt87
            case hyt87 => (intro wq hSw; (try dsimp only at hSw); go_simp; try with_reducible rfl)
            simp only [List.setIfInBounds_toArray, List.set_cons_zero, List.set_cons_succ]
            refine take_atR (i := 1) (d := 91) (v := ?vt88) rfl rfl (by kernel_rfl) (by kernel_rfl) (by kernel_rfl) (fun _ _ _ h => h) (Or.inl ⟨by rfl, ?hyt88⟩) (by assumption) ?restt88
            case hyt88 => (intro wq hSw; (try dsimp only at hSw); go_simp; try with_reducible rfl)
            simp only [List.setIfInBounds_toArray, List.set_cons_zero, List.set_cons_succ]
            refine take_atR (i := 2) (d := 92) (v := ?vt89) rfl rfl (by kernel_rfl) (by kernel_rfl) (by kernel_rfl) (fun _ _ _ h => h) (Or.inl ⟨by rfl, ?hyt89⟩) (by assumption) ?restt89
            case hyt89 => (intro wq hSw; (try dsimp only at hSw); go_simp; try with_reducible rfl)
            simp only [List.setIfInBounds_toArray, List.set_cons_zero, List.set_cons_succ]
            refine take_atR (i := 3) (d := 93) (v := ?vt90) rfl rfl (by kernel_rfl) (by kernel_rfl) (by kernel_rfl) (fun _ _ _ h => h) (Or.inl ⟨by rfl, ?hyt90⟩) (by assumption) ?restt90
            case hyt90 => (intro wq hSw; (try dsimp only at hSw); go_simp; try with_reducible rfl)
            simp only [List.setIfInBounds_toArray, List.set_cons_zero, List.set_cons_succ]
            refine take_atR (i := 4) (d := 94) (v := ?vt91) rfl rfl (by kernel_rfl) (by kernel_rfl) (by kernel_rfl) (fun _ _ _ h => h) (Or.inl ⟨by rfl, ?hyt91⟩) (by assumption) ?restt91
            case hyt91 => (intro wq hSw; (try dsimp only at hSw); go_simp; try with_reducible rfl)
            simp only [List.setIfInBounds_toArray, List.set_cons_zero, List.set_cons_succ]
            refine take_atR (i := 5) (d := 95) (v := ?vt92) rfl rfl (by kernel_rfl) (by kernel_rfl) (by kernel_rfl) (fun _ _ _ h => h) (Or.inl ⟨by rfl, ?hyt92⟩) (by assumption) ?restt92
            case hyt92 => (intro wq hSw; (try dsimp only at hSw); go_simp; try with_reducible rfl)
            simp only [List.setIfInBounds_toArray, List.set_cons_zero, List.set_cons_succ]
            refine take_atR (i := 6) (d := 96) (v := ?vt93) rfl rfl (by kernel_rfl) (by kernel_rfl) (by kernel_rfl) (fun _ _ _ h => h) (Or.inl ⟨by rfl, ?hyt93⟩) (by assumption) ?restt93
            case hyt93 => (intro wq hSw; (try dsimp only at hSw); go_simp; try with_reducible rfl)
            simp only [List.setIfInBounds_toArray, List.set_cons_zero, List.set_cons_succ]
            refine take_atR (i := 7) (d := 97) (v := ?vt94) rfl rfl (by kernel_rfl) (by kernel_rfl) (by kernel_rfl) (fun _ _ _ h => h) (Or.inl ⟨by rfl, ?hyt94⟩) (by assumption) ?restt94
            case hyt94 => (intro wq hSw; (try dsimp only at hSw); go_simp; try with_reducible rfl)
            simp only [List.setIfInBounds_toArray, List.set_cons_zero, List.set_cons_succ]
            refine take_atR (i := 8) (d := 98) (v := ?vt95) rfl rfl (by kernel_rfl) (by kernel_rfl) (by kernel_rfl) (fun _ _ _ h => h) (Or.inl ⟨by rfl, ?hyt95⟩) (by assumption) ?restt95
            case hyt95 => (intro wq hSw; (try dsimp only at hSw); go_simp; try with_reducible rfl)
            simp only [List.setIfInBounds_toArray, List.set_cons_zero, List.set_cons_succ]
            refine take_atR (i := 9) (d := 99) (v := ?vt96) rfl rfl (by kernel_rfl) (by kernel_rfl) (by kernel_rfl) (fun _ _ _ h => h) (Or.inl ⟨by rfl, ?hyt96⟩) (by assumption) ?restt96
            case hyt96 => (intro wq hSw; (try dsimp only at hSw); go_simp; try with_reducible rfl)
            simp only [List.setIfInBounds_toArray, List.set_cons_zero, List.set_cons_succ]
            refine wpAnyH_ready (rs := [10]) (by kernel_rfl) (by simp) ?_
            refine AllReadyH.cons rfl (fun K hK => ?_) AllReadyH.nil
            go_simp
            go_at_call 58
            refine (HNX _ (drewP (Below.refl _ _))).mono ?_
            rintro e w8 ⟨b8, rfl, htp⟩
            obtain ⟨told2, bs2, lst2, cx8, ko8, hc8⟩ := RS.out.next (drewP (Below.refl _ _)) htp
            refine hK.out _ _ (ST16.out _ _ _ _ cx8) (fun hHeld2 => ?_)
            clear hK hHeld
            try simp only [Act.put, List.setIfInBounds_toArray, List.set_cons_zero, List.set_cons_succ]
            refine take_atR (i := 11) (d := 101) (v := ?vt97) rfl rfl (by kernel_rfl) (by kernel_rfl) (by kernel_rfl) (fun _ _ _ h => h) (Or.inl ⟨by rfl, ?hyt97⟩) (by assumption) ?restt97
            case hyt97 => (intro wq hSw; (try dsimp only at hSw); go_simp; try with_reducible rfl)
            simp only [List.setIfInBounds_toArray, List.set_cons_zero, List.set_cons_succ]
            refine wpAnyH_done (by kernel_rfl) ?_ _
            clear hHeld2
            obtain ⟨q1, q2, q3, q4, q5, q6⟩ := cx8.reads
            have CX8 : Hid _ := cx8
            have KO8 : Hid _ := ko8
            clear HNX ST16 cx8 ko8 htp
            rcases hc8 with ⟨rfl, rs9⟩ | ⟨rfl, hno⟩
            · have RS9 : Hid _ := rs9
              clear rs9
              gi_wp2
              have hx := RS9.out
              rw [List.take_length] at hx
              obtain ⟨hi, hd, hpc, htl⟩ := HI.out
              have hdb := HDB.out
              have haf2 := HAF.out
              have hup : upP f pc = path (f.code.length + pc) (f.code.length + pc) := rfl
              have hpt : ptell f ks pc i d = L.map (htell f) ++ (nextsP i pc).map (fun q => (q, after)) := by unfold ptell; rw [hup, HLL.out, haf2]
              have hok2 := ptell_ok HOK.out RM.out.tree htl hi (d := d) hdb.1 (by omega)
              rw [hpt] at hok2
              have htr := RM.out.tree.next HOK.out htl hi (d := d) hdb.1 (by omega) (u := told2) (by rw [hpt]; exact hx.tells)
              rw [hup] at htr
              refine ⟨KO8.out.from _, cnt (taken.set pc true), bs2, lst2, HCM.out, told2, taken.set pc true, clrF ks (path (f.code.length + pc) (f.code.length + pc)), KS, vs7, CX8.out, ⟨tells_hi hx.tells hok2 RM.out.hi, htr, ?_, clr_hs RM.out.lens _⟩, ?_, rfl⟩
              · rw [← HKS.out]
                exact RM.out.dn.clr _
              · rw [HRN.out, hstep2.out, hx.tells]
            · have HNO : Hid _ := hno
              clear hno
              gi_wp2
              have hnone : stepP f told pc = none := by
                have h1 := HNO.out
                rw [List.take_length] at h1
                rw [hstep2.out, h1]
              have hbad : depthsP f = .error pc := by rw [HRN.out, hnone]
              exact ⟨(KO8.out.trans (KeepsOthers.setCell _ _ _)).from _, rfl, _, _, _, _, _, _, pc, CX8.out.fset pc, CX8.out.st.qb.tl, hbad⟩

end Go.Proofs.YtnekcomkochmjaaGreatDoor
