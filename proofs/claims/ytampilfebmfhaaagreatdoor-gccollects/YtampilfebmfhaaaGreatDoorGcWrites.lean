/- gc's writes: what is to be written when all objects have been moved, put off as functions. -/
import Derived.Test.YtampilfebmfhaaaGreatDoorGcMove
import Derived.Maps.OwnIn
namespace Go.Proofs.YtampilfebmfhaaaGreatDoor
set_option linter.unusedVariables false
set_option linter.unusedSimpArgs false
open Go.RowKit Go.Maps Go.Shelf

attribute [local go_sem] Oper.semAt_some

variable {n₀ bh b lim used : Nat} {vw vb : Value} {w : World} {M : List Ob}

/-- A write that is put off: a function, and what it writes. -/
def Clo (bh : Nat) (w : World) (c : Value) (x : Wr) : Prop :=
  ∃ Bh Bf Bk Bt t0 t more : Nat, c = .func (.func 173) #[] #[.pointer (some ⟨Bh, 0, none⟩), .pointer (some ⟨Bf, 0, none⟩), .pointer (some ⟨Bk, 0, none⟩), .pointer (some ⟨Bt, 0, none⟩)] ∧
    w.heap[Bh]? = some (.cells #[.pointer (some ⟨bh, 0, none⟩)] 24 (0, 0)) ∧ w.heap[Bf]? = some (.cells #[.int .i64 x.fr] 2 (0, 0)) ∧ w.heap[Bk]? = some (.cells #[.int .i64 x.word, .int .i64 t0, .int .u64 more] 132 (0, 0)) ∧
    w.heap[Bt]? = some (.cells #[.int .i64 t] 2 (0, 0)) ∧ x.v = t + more ∧ t ≤ 1048576 ∧ more ≤ 1 ∧ x.word ≤ 1048576

/-- What keeps a function as it is. -/
theorem Clo.kept {c : Value} {x : Wr} (h : Clo bh w c x) {w' : World} (hk : ∀ (k : Nat) (cur : Array Value) (t : TypeId), w.heap[k]? = some (Obj.cells cur t (0, 0)) → (t = 24 ∨ t = 2 ∨ t = 132) → w'.heap[k]? = w.heap[k]?) : Clo bh w' c x := by
  obtain ⟨Bh, Bf, Bk, Bt, t0, t, more, h1, h2, h3, h4, h5, h6⟩ := h
  exact ⟨Bh, Bf, Bk, Bt, t0, t, more, h1, (hk _ _ _ h2 (.inl rfl)).trans h2, (hk _ _ _ h3 (.inr (.inl rfl))).trans h3, (hk _ _ _ h4 (.inr (.inr rfl))).trans h4, (hk _ _ _ h5 (.inr (.inl rfl))).trans h5, h6⟩

def Clos (bh : Nat) (w : World) : List Value → List Wr → Prop
  | [], [] => True
  | c :: cs, x :: xs => Clo bh w c x ∧ Clos bh w cs xs
  | _, _ => False

theorem Clos.kept {w' : World} (hk : ∀ (k : Nat) (cur : Array Value) (t : TypeId), w.heap[k]? = some (Obj.cells cur t (0, 0)) → (t = 24 ∨ t = 2 ∨ t = 132) → w'.heap[k]? = w.heap[k]?) : ∀ {cs : List Value} {xs : List Wr}, Clos bh w cs xs → Clos bh w' cs xs
  | [], [], _ => trivial
  | c :: cs, x :: xs, ⟨h1, h2⟩ => ⟨h1.kept hk, Clos.kept hk h2⟩

theorem Clos.snoc {c : Value} {x : Wr} : ∀ {cs : List Value} {xs : List Wr}, Clos bh w cs xs → Clo bh w c x → Clos bh w (cs ++ [c]) (xs ++ [x])
  | [], [], _, h => ⟨h, trivial⟩
  | d :: cs, y :: xs, ⟨h1, h2⟩, h => ⟨h1, Clos.snoc h2 h⟩

theorem Clos.length : ∀ {cs : List Value} {xs : List Wr}, Clos bh w cs xs → cs.length = xs.length
  | [], [], _ => rfl
  | d :: cs, y :: xs, ⟨h1, h2⟩ => by simp [Clos.length h2]

theorem Clos.get : ∀ {cs : List Value} {xs : List Wr} {j : Nat} {x : Wr}, Clos bh w cs xs → xs[j]? = some x → ∃ c, cs[j]? = some c ∧ Clo bh w c x
  | [], [], j, x, _, h => by simp at h
  | d :: cs, y :: xs, 0, x, ⟨h1, h2⟩, h => by simp at h; subst h; exact ⟨d, rfl, h1⟩
  | d :: cs, y :: xs, j + 1, x, ⟨h1, h2⟩, h => by
    obtain ⟨c, e, hc⟩ := Clos.get h2 (j := j) (x := x) (by simpa using h)
    exact ⟨c, by simpa using e, hc⟩

theorem Clos.below {cs : List Value} {xs : List Wr} (h : Clos bh w cs xs) {w' : World} (hB : Below w.heap.size w w') : Clos bh w' cs xs :=
  h.kept (fun k cur t hk _ => hB.block k (Array.getElem?_eq_some_iff.1 hk).1)

theorem Clos.step {cs : List Value} {xs : List Wr} (h : Clos bh w cs xs) {bh' : Nat} (hp : Hp n₀ bh' b vw vb w lim used M) {vw' vb' : Value} {w' : World} (hS : Step b vw vb w vw' vb' w') : Clos bh w' cs xs :=
  h.kept (fun k cur t hk ht => hp.stays hS hk (fun cur' t' e => by
    cases e
    rcases ht with rfl | rfl | rfl <;> decide))

set_option maxHeartbeats 400000 in
/-- The function, called. -/
theorem clo_in {l r : List Ob} {o : Ob} (h : Hp n₀ bh b vw vb w lim used (l ++ o :: r)) {Bh Bf Bk Bt t0 t more word : Nat} (h2 : w.heap[Bh]? = some (.cells #[.pointer (some ⟨bh, 0, none⟩)] 24 (0, 0))) (h3 : w.heap[Bf]? = some (.cells #[.int .i64 o.at_] 2 (0, 0))) (h4 : w.heap[Bk]? = some (.cells #[.int .i64 word, .int .i64 t0, .int .u64 more] 132 (0, 0)))
    (h5 : w.heap[Bt]? = some (.cells #[.int .i64 t] 2 (0, 0))) (ht : t ≤ 1048576) (hm : more ≤ 1) (hw : word < o.ws.length) :
    Calls Tryz.prog 173 #[.pointer (some ⟨Bh, 0, none⟩), .pointer (some ⟨Bf, 0, none⟩), .pointer (some ⟨Bk, 0, none⟩), .pointer (some ⟨Bt, 0, none⟩)] w fun e w' => e = .returned (.tuple #[]) ∧
      Hp n₀ bh b vw vb w' lim used (l ++ { o with ws := o.ws.set word (t + more) } :: r) ∧ Step b vw vb w vw vb w' := by
  have c2 : w.cell? ⟨Bh, 0, none⟩ = some (.pointer (some ⟨bh, 0, none⟩)) := by rw [cell_of_row w Bh 0 _ _ _ h2]; rfl
  have c3 : w.cell? ⟨Bf, 0, none⟩ = some (.int .i64 o.at_) := by rw [cell_of_row w Bf 0 _ _ _ h3]; rfl
  have c4 : w.cell? ⟨Bk, 0, none⟩ = some (.int .i64 word) := by rw [cell_of_row w Bk 0 _ _ _ h4]; rfl
  have c4' : w.cell? ⟨Bk, 2, none⟩ = some (.int .u64 more) := by rw [cell_of_row w Bk 2 _ _ _ h4]; rfl
  have c5 : w.cell? ⟨Bt, 0, none⟩ = some (.int .i64 t) := by rw [cell_of_row w Bt 0 _ _ _ h5]; rfl
  have H1 := writeM h word (t + more) hw (by omega)
  simp only [Int.natCast_add] at H1
  clear h2 h3 h4 h5
  go_enter Tryz.func173, Tryz.ntmps173
  go_wp2_with (first
    | (go_at_call 109; refine H1.mono ?_; clear H1; rintro e w' ⟨rfl, hp, hS⟩))
  go_end0
  exact ⟨rfl, hp, hS⟩

theorem prs_len {M : List Ob} : ∀ (ws : List Nat) (i : Nat), (prs M i ws).length ≤ ws.length
  | [], _ => by simp [prs]
  | [_], _ => by simp [prs]
  | k :: n :: r, i => by
    have := prs_len (M := M) r (i + 2)
    simp only [prs, List.length_append, List.length_cons]
    split <;> simp <;> omega

theorem links_len (M : List Ob) (o : Ob) : (links M o).length ≤ o.ws.length + 1 := by
  unfold links
  split
  · unfold itemsL
    split
    · split <;> simp
    · simp
  · split
    · have := prs_len (M := M) o.ws 0; omega
    · split
      · have := prs_len (M := M) (o.ws.drop 1) 1; rw [List.length_drop] at this; omega
      · split
        · have := prs_len (M := M) (o.ws.take 2) 0; rw [List.length_take] at this; omega
        · simp

theorem wrsOf_len (d : Nat → Nat) (o : Ob) (xs : List Lk) : (wrsOf d o xs).length ≤ xs.length := by
  unfold wrsOf
  rw [List.length_map]
  exact List.length_filter_le _ _

theorem wrs_len (M : List Ob) (d : Nat → Nat) : ∀ (L : List Ob), (wrs M d L).length ≤ sumO L
  | [] => by simp [wrs]
  | o :: r => by
    have h1 := wrs_len M d r
    have h2 := wrsOf_len d o (links M o)
    have h3 := links_len M o
    have e : wrs M d (o :: r) = wrsOf d o (links M o) ++ wrs M d r := by simp [wrs]
    rw [e, List.length_append, sumO_cons]; omega

theorem infoF : (Tryz.prog.info? 1).map (fun i => (i.zero, i.size, i.bytes)) = some (some .nilFunc, 1, 8) := by kernel_rfl

/-- How many places there are in the map, and that none are where nothing moves. -/
theorem IsMv.len {bM n : Nat} {d : Nat → Nat} (h : IsMv w bM n d) : ∃ s : Nat, (∀ ty, (Builtin.len_ #[99] ty #[.map (some bM)]).run Tryz.prog w = .ok (.int .i64 s) w) ∧ (s = 0 → ∀ p : Nat, d p = p) := by
  obtain ⟨D, h1, h2⟩ := h
  refine ⟨Maps.size D, fun ty => h1.len Tryz.underlying99 ty, fun hs p => ?_⟩
  obtain ⟨es, cl, hb, F, _, rfl⟩ := h1
  have e1 : es.size = 0 := by rw [← hs]; simp [Maps.size, length_sorted]
  have e2 : es = #[] := Array.size_eq_zero_iff.1 e1
  have e3 := (h2 p).1
  rw [e2] at e3
  change false = decide (d p ≠ p) at e3
  simpa using e3.symm

theorem wrs_idle {M L : List Ob} {d : Nat → Nat} (h : ∀ p : Nat, d p = p) : wrs M d L = [] := by
  unfold wrs
  rw [List.flatMap_eq_nil_iff]
  intro o _
  unfold wrsOf
  simp [h]

/-- What stands at the head of the loop over objects. -/
def WritesRel (bh bM : Nat) (q : Option Addr) (c : Nat) (M L : List Ob) (w : World) (N : Nat) (A : Act) (wr : World) : Prop :=
  ∃ (x0 x1 x2 x5 x6 x8 x9 x10 x11 x12 x13 x14 x15 x16 x20 x21 x22 x23 x24 x25 x26 x27 x28 x29 x30 x31 x32 x33 x34 x35 x36 x37 x38 x39 x40 x41 x42 x43 x44 : Value) (pre rest : List Ob) (cs : List Value) (vl : Value) (Ds : List Nat),
    A = { tmps := #[x0, x1, x2, .pointer (some ⟨w.heap.size, 0, none⟩), .pointer (some ⟨w.heap.size + 1, 0, none⟩), x5, x6, .pointer (some ⟨w.heap.size + 1 + 1, 0, none⟩), x8, x9, x10, x11, x12, x13, x14, x15, x16, .slice q L.length c, .int .i64 L.length, .int .i64 pre.length, x20, x21, x22, x23, x24, x25, x26, x27, x28, x29, x30, x31, x32, x33, x34, x35, x36, x37, x38, x39, x40, x41, x42, x43, x44], defers := marksOf Ds } ∧ L = pre ++ rest ∧
    Boxed wr w.heap.size 99 (.map (some bM)) ∧ Boxed wr (w.heap.size + 1) 24 (.pointer (some ⟨bh, 0, none⟩)) ∧ Boxed wr (w.heap.size + 1 + 1) 102 vl ∧
    wr.ownsRow (w.heap.size + 3) 1 1 vl cs.length cs ∧ Clos bh wr cs (wrs M (dst 0 L) pre) ∧ Below w.heap.size w wr ∧ w.heap.size + 3 ≤ wr.heap.size ∧
    (∀ D ∈ Ds, w.heap.size ≤ D ∧ wr.heap[D]? = some (.deferred (some []))) ∧ Ds.Nodup ∧ rest.length + 1 ≤ N

/-- A block of cells stays while others that are none are turned. -/
theorem cells_stay {n : Nat} {W W' : World} {row : Option Nat} (hg : W.grownBy W' row) (hr : ∀ r, row = some r → n ≤ r ∧ ∃ o : Obj, W.heap[r]? = some o ∧ o.isCells = false) {k : Nat} {cur : Array Value} {t : TypeId} {fr : Nat × Nat} (hk : W.heap[k]? = some (.cells cur t fr)) : W'.heap[k]? = W.heap[k]? := by
  refine hg.block k (Array.getElem?_eq_some_iff.1 hk).1 (fun e => ?_)
  obtain ⟨_, o, ho, hn⟩ := hr k e.symm
  rw [hk] at ho; cases ho; simp [Obj.isCells] at hn

/-- A block of another type stays while a list in a box grows. -/
theorem grows_stay {W w1 : World} {B m₀ k : Nat} {t e : TypeId} {v v' : Value} {xs : List Value} {tmp : Obj} (hv : Boxed W B t v) (hrow : W.ownsRow m₀ e 1 v k xs) (hgrow : (W.alloc tmp).grownBy w1 v.ownBlock) {q : Nat} {cur : Array Value} {t' : TypeId} {fr : Nat × Nat} (hq : W.heap[q]? = some (.cells cur t' fr)) (h1 : t' ≠ e) (h2 : t' ≠ t) :
    (w1.setCell ⟨B, 0, none⟩ v').heap[q]? = W.heap[q]? := by
  have hlt := (Array.getElem?_eq_some_iff.1 hq).1
  have hqB : q ≠ B := by
    rintro rfl
    have : W.heap[q]? = some (.cells #[v] t (0, 0)) := hv
    rw [this] at hq; cases hq; exact h2 rfl
  rw [heap_setCell_other w1 ⟨B, 0, none⟩ q _ hqB, hgrow.block q (by simp; omega) (fun e' => ?_)]
  · exact Below.heap_alloc _ _ _ hlt
  · obtain ⟨cur', hc⟩ := IsAr.row_type hrow e'.symm
    rw [hq] at hc; cases hc; exact h1 rfl

set_option maxRecDepth 100000 in
set_option maxHeartbeats 2000000 in
theorem writes_in (h : Hp n₀ bh b vw vb w lim used M) {vs : List Vl} {f : Ob → Bool} (hf : Reached M vs f) {L : List Ob} (hL : M.filter f = L) {bM n : Nat} (hmv : IsMv w bM n (dst 0 L)) (q : Option Addr) (c base : Nat) (hrow : w.ownsRow base 2 1 (.slice q L.length c) L.length (L.map (fun o => pv o.at_))) :
    Calls Tryz.prog 97 #[.map (some bM), .pointer (some ⟨bh, 0, none⟩), .slice q L.length c] w fun e w' => ∃ v cs, e = .returned v ∧ w'.ownsRow (w.heap.size + 3) 1 1 v cs.length cs ∧ Clos bh w' cs (wrs M (dst 0 L) L) ∧ Below w.heap.size w w' := by
  have hs : Srt 0 L := by rw [← hL]; exact h.srt.1.filter
  have hle := h.le
  have hLM : ∀ o ∈ L, o ∈ M := fun o ho => by rw [← hL] at ho; exact (List.mem_filter.1 ho).1
  have hin : ∀ o ∈ L, o.end_ ≤ used := fun o ho => h.srt.2 o (hLM o ho)
  have hsum := Srt.sum_used hs hin (Nat.zero_le _)
  have hlen := Srt.length_le hs hin (Nat.zero_le _)
  obtain ⟨i0, hi, hz0, hz1, hz2⟩ := info_parts infoF
  refine (callsIn_wide (n := 3)).1 ?_
  have h1 : 1 ≤ 3 := by omega
  refine callsIn_of_wp_marks Tryz.func97 rfl trivial ?_ rfl
  simp only [Tryz.ntmps97, List.size_toArray, List.length_cons, List.length_nil, Nat.reduceAdd, Nat.reduceSub, Array.replicate_succ, Array.replicate_zero, List.push_toArray, List.append_toArray, List.nil_append, List.cons_append]
  obtain ⟨sz, hlen', hz⟩ := (hmv.below ((below1 w (.cells #[.map (some bM)] 99)).alloc (by simp) (.cells #[.pointer (some ⟨bh, 0, none⟩)] 24))).len
  have hlen2 := hlen' 3
  clear hlen'
  by_cases hsz : sz = 0
  · have hi := hz hsz
    subst hsz
    gi_wp2
    show LeavesInM Fence.wide 3 Tryz.prog Tryz.f97 _ _ (marksOf []) .returning _
    refine leaves_marks [] _ (by simp) (by simp) ?_
    intro w5 g1 g2 g3 g4 g5
    have hB5 := (below1 w (.cells #[.map (some bM)] 99)).alloc (by simp) (.cells #[.pointer (some ⟨bh, 0, none⟩)] 24)
    refine ⟨_, results_tmp rfl _ _ _, .slice none 0 0, rfl, [], World.ownsRow_nil _ _ _ _, ?_, ?_⟩
    · rw [wrs_idle hi]; exact trivial
    · exact ⟨g3.trans hB5.os, g4.trans hB5.tape, g5.trans hB5.output, by rw [g2]; exact hB5.size, fun k hk => (g1 k (by simp)).trans (hB5.block k hk)⟩
  have hszb : ((sz : Int) == 0) = false := by simp; omega
  gi_wp2
  clear hlen2 hszb hz hsz
  obtain ⟨W0, hW0⟩ : ∃ W0, ((w.alloc (.cells #[.map (some bM)] 99)).alloc (.cells #[.pointer (some ⟨bh, 0, none⟩)] 24)).alloc (.cells #[.slice none 0 0] 102) = W0 := ⟨_, rfl⟩
  have s1 : Boxed W0 w.heap.size 99 (.map (some bM)) := by rw [← hW0]; exact ((Boxed.new w 99 (.map (some bM))).alloc _).alloc _
  have s2 : Boxed W0 (w.heap.size + 1) 24 (.pointer (some ⟨bh, 0, none⟩)) := by
    have := (Boxed.new (w.alloc (.cells #[.map (some bM)] 99)) 24 (.pointer (some ⟨bh, 0, none⟩))).alloc (.cells #[.slice none 0 0] 102)
    rw [← hW0]; simpa using this
  have s3 : Boxed W0 (w.heap.size + 1 + 1) 102 (.slice none 0 0) := by
    have := Boxed.new ((w.alloc (.cells #[.map (some bM)] 99)).alloc (.cells #[.pointer (some ⟨bh, 0, none⟩)] 24)) 102 (.slice none 0 0)
    rw [← hW0]; simpa using this
  have s4 : Below w.heap.size w W0 := by rw [← hW0]; exact ((below1 w _).alloc (by simp) _).alloc (by simp; omega) _
  have s5 : w.heap.size + 3 ≤ W0.heap.size := by rw [← hW0]; simp
  try rw [hW0]
  clear hW0
  refine wpIn_loop_rel (WritesRel bh bM q c M L w) (L.length + 1) ⟨_, _, _, _, _, _, _, _, _, _, _, _, _, _, _, _, _, _, _, _, _, _, _, _, _, _, _, _, _, _, _, _, _, _, _, _, _, _, _, [], L, [], .slice none 0 0, [], rfl, rfl, s1, s2, s3, World.ownsRow_nil _ _ _ _, trivial, s4, s5, by simp, by simp, Nat.le_refl _⟩ ?_ ?_
  · rintro A W ⟨_, _, _, _, _, _, _, _, _, _, _, _, _, _, _, _, _, _, _, _, _, _, _, _, _, _, _, _, _, _, _, _, _, _, _, _, _, _, _, _, _, _, _, _, _, _, _, _, _, _, _, _, _, _, _, hle⟩
    omega
  · clear s1 s2 s3 s4 s5
    rintro N A wr ⟨x0, x1, x2, x5, x6, x8, x9, x10, x11, x12, x13, x14, x15, x16, x20, x21, x22, x23, x24, x25, x26, x27, x28, x29, x30, x31, x32, x33, x34, x35, x36, x37, x38, x39, x40, x41, x42, x43, x44, pre, rest, cs, vl, Ds, rfl, hR, b1, b2, b3, hrw, hcl, hB, hsz, hDs, hDn, hN⟩
    have d1 := b1.cell
    have d2 := b2.cell
    have d3 := b3.cell
    cases rest with
    | nil =>
      have hR' : L = pre := by simpa using hR
      have hq : ¬ ((pre.length : Int) < (L.length : Int)) := by rw [hR']; omega
      rw [← hR'] at hcl
      clear hR hR'
      gi_wp2
      show LeavesInM Fence.wide 3 Tryz.prog Tryz.f97 _ _ (marksOf Ds) .returning wr
      refine leaves_marks Ds wr (fun D hD => (hDs D hD).2) hDn ?_
      intro w5 g1 g2 g3 g4 g5
      have hcells : ∀ (k : Nat) (cur : Array Value) (t : TypeId) (fr : Nat × Nat), wr.heap[k]? = some (Obj.cells cur t fr) → w5.heap[k]? = wr.heap[k]? := fun k cur t fr hk => g1 k (fun hD => by
        have := (hDs k hD).2; rw [hk] at this; cases this)
      refine ⟨_, results_tmp rfl _ _ _, vl, rfl, cs, ?_, ?_, ?_⟩
      · exact row_kept hrw (fun k hk => by obtain ⟨cur, hc⟩ := IsAr.row_type hrw hk; exact hcells _ _ _ _ hc)
      · exact hcl.kept (fun k cur t hk _ => hcells _ _ _ _ hk)
      · exact ⟨g3.trans hB.os, g4.trans hB.tape, g5.trans hB.output, by rw [g2]; exact hB.size, fun k hk => (g1 k (fun hD => by have := (hDs k hD).1; omega)).trans (hB.block k hk)⟩
    | cons o rest =>
      have hom : o ∈ L := by rw [hR]; simp
      have hlR : pre.length < L.length := by rw [hR]; simp
      have hlR' : (pre.length : Int) < (L.length : Int) := by omega
      obtain ⟨lq, rq, hM⟩ := List.append_of_mem (hLM o hom)
      have hrow' := row_kept hrow (fun k hk => hB.block k (hrow.lt k hk).2)
      obtain ⟨g, rfl⟩ := row_where hrow (by omega)
      have d4 : wr.cell? ⟨g, pre.length, none⟩ = some (.int .i64 o.at_) := row_cell hrow' (by rw [hR]; simp [pv]) hlR
      have hwo := hin o hom
      unfold Ob.end_ at hwo
      have hdl : ∀ x ∈ L, dst 0 L x.at_ ≤ 1048576 := fun x hx => by
        have := dst_le (p := x.at_) hs; have := hin x hx; unfold Ob.end_ at this; omega
      have H1 := place_in (hmv.kept (hB.block _ hmv.lt)) o.at_ (by omega) (hdl o hom)
      have hBW' : Below wr.heap.size wr (wr.alloc (.cells #[.int .i64 (dst 0 L o.at_ : Nat)] 2)) := below1 _ _
      have H2 := holds_in (bh := bh) (o.at_ : Int) (wr.alloc (.cells #[.int .i64 (dst 0 L o.at_ : Nat)] 2))
      have HR : Hid _ := hR
      have d5 := cell_alloc_l (.cells #[.int .i64 (dst 0 L o.at_ : Nat)] 2) d2
      clear hR
      gi_wp2_with (first
        | (refine ⟨trivial, ?_⟩; gi_at_call 172; refine (callsIn_wide.2 H1).mono ?_; clear H1; rintro e w' ⟨rfl, rfl⟩)
        | (refine ⟨trivial, ?_⟩; gi_at_call 121; refine (callsIn_wide.2 H2).mono ?_; clear H2; rintro e w1 ⟨rfl, hB1⟩))
      obtain ⟨wr, hww⟩ : ∃ wr, wr = w' := ⟨_, rfl⟩
      subst hww
      have hs0 := hB.size
      have hs1 := hB1.size
      rw [World.size_alloc] at hs1
      have hbk := h.blocks
      have hDl : ∀ D ∈ Ds, D < wr.heap.size := fun D hD => (Array.getElem?_eq_some_iff.1 (hDs D hD).2).1
      have hBW : Below wr.heap.size wr w1 := hBW'.trans (hB1.mono (by simp))
      have hBw : Below w.heap.size w w1 := hB.trans (hBW.mono hB.size)
      have hp2 := (h.below hB).below hBW
      rw [hM] at hp2
      obtain ⟨P, hP⟩ : ∃ P : Nat → Prop, P = fun k => (k = bh ∨ k = b ∨ vw.ownBlock = some k ∨ vb.ownBlock = some k) := ⟨_, rfl⟩
      have hP1 : Heaps bh b vw vb P := fun k hk => by rw [hP]; exact hk
      have hP3 : ∀ k, P k → k < w.heap.size := fun k hk => by rw [hP] at hk; exact (hbk k hk).2.1
      have hT := fun (V : World) (hV : Below w1.heap.size w1 V) (L : List Lk) (xs : List { x : Lk // x ∈ L }) hxs => links_tells (L := L) hP1 (fun k hk => by have := hP3 k hk; have := hV.size; omega) (hp2.below hV) xs hxs
      rw [← hM] at hT
      have hT' := fun (V : World) (hV : Below w1.heap.size w1 V) => hT V hV (links M o) (links M o).attach (List.attach_map_subtype_val (links M o))
      have hlto : ∀ x ∈ links M o, x.to ≤ 1048576 ∧ dst 0 L x.to ≤ 1048576 ∧ x.more ≤ 1 ∧ x.word ≤ 1048576 := fun x hx => by
        obtain ⟨q, hq, e⟩ := links_mem hx
        have h1 := h.srt.2 q hq
        have h2 := dst_le (p := x.to) hs
        have h3 := (List.getElem?_eq_some_iff.1 (links_word hx)).1
        have h4 : x.more ≤ 1 := by
          rcases links_iff.1 hx with ⟨_, y, _, _, _, rfl⟩ | ⟨_, j, k, n, _, _, _, _, rfl⟩ <;> simp
        unfold Ob.end_ at h1
        omega
      have hwl : (wrs M (dst 0 L) pre).length + (links M o).length ≤ 1048576 := by
        have q1 := wrs_len M (dst 0 L) pre
        have q2 := links_len M o
        have q3 : sumO pre + (o.ws.length + 1) ≤ sumO L := by
          rw [HR.out, sumO_append, sumO_cons]; omega
        omega
      have hNr : rest.length + 1 ≤ N := by simpa using hN
      clear hT
      refine wp_range_method h1 rfl (enters_of Tryz.func122 (by kernel_rfl) rfl) (fun k hk => by have := hP3 k hk; omega) hT' (fun _ => rfl)
        (fun mm pre' W => (∃ cs' vl', Boxed W (w.heap.size + 1 + 1) 102 vl' ∧ W.ownsRow (w.heap.size + 3) 1 1 vl' cs'.length cs' ∧ (∀ k, vl'.ownBlock = some k → k < w1.heap.size ∨ mm ≤ k) ∧ Clos bh W cs' (wrs M (dst 0 L) pre ++ wrsOf (dst 0 L) o (pre'.map (·.val)))) ∧
          Boxed W w.heap.size 99 (.map (some bM)) ∧ Boxed W (w.heap.size + 1) 24 (.pointer (some ⟨bh, 0, none⟩)) ∧ Boxed W wr.heap.size 2 (.int .i64 (dst 0 L o.at_ : Nat)) ∧ Below w.heap.size w W ∧ (∀ D ∈ Ds, w.heap.size ≤ D ∧ W.heap[D]? = some (.deferred (some []))) ∧ w1.heap.size ≤ W.heap.size ∧ mm ≤ W.heap.size)
        (fun mm s W W' row hs hg hr => by
          obtain ⟨⟨cs', vl', q1, q2, q3, q4⟩, q5, q6, q7, q8, q9, q10, q0⟩ := hs
          refine ⟨⟨cs', vl', (cells_stay hg hr q1).trans q1, row_kept q2 (fun k hk => by obtain ⟨cur, hc⟩ := IsAr.row_type q2 hk; exact cells_stay hg hr hc), q3, q4.kept (fun k cur t hk _ => cells_stay hg hr hk)⟩, (cells_stay hg hr q5).trans q5, (cells_stay hg hr q6).trans q6, (cells_stay hg hr q7).trans q7,
            (ownFrom_below (β := Unit) (Nat.le_refl _) (by omega)) () W W' row q8 hg hr, fun D hD => ⟨(q9 D hD).1, ?_⟩, Nat.le_trans q10 hg.size, Nat.le_trans q0 hg.size⟩
          refine (hg.block D (by have := hDl D hD; omega) (fun e => ?_)).trans (q9 D hD).2
          have := (hr D e.symm).1; have := hDl D hD; omega)
        (fun V hV => ⟨⟨cs, vl, ((hBW.trans (hV.mono hBW.size)).block _ b3.lt).trans b3, row_kept hrw (fun k hk => (hBW.trans (hV.mono hBW.size)).block k (hrw.lt k hk).2), fun k e => .inl (by have := (hrw.lt k e).2; omega), by simpa [wrsOf] using hcl.below (hBW.trans (hV.mono hBW.size))⟩, ((hBW.trans (hV.mono hBW.size)).block _ b1.lt).trans b1, ((hBW.trans (hV.mono hBW.size)).block _ b2.lt).trans b2, (hV.block _ (by omega)).trans ((hB1.block _ (by simp)).trans (heap_alloc_new wr _)), hBw.trans (hV.mono hBw.size), fun D hD => ⟨(hDs D hD).1, below_keeps hV D _ (below_keeps hBW D _ (hDs D hD).2 rfl) rfl⟩, hV.size, Nat.le_refl _⟩)
        (fun x a' W => ∃ Bx, w1.heap.size ≤ Bx ∧ W.heap[Bx]? = some (.cells #[.int .i64 x.val.word, .int .i64 x.val.to, .int .u64 x.val.more] 132 (0, 0)) ∧ a' = { tmps := #[x0, x1, x2, .pointer (some ⟨w.heap.size, 0, none⟩), .pointer (some ⟨w.heap.size + 1, 0, none⟩), x5, x6, .pointer (some ⟨w.heap.size + 1 + 1, 0, none⟩), x8, .int .i64 o.at_, .pointer (some ⟨wr.heap.size, 0, none⟩), .pointer (some ⟨Bx, 0, none⟩), x12, x13, x14, x15, x16, .slice (some ⟨g, 0, none⟩) L.length c, .int .i64 L.length, .int .i64 pre.length, .bool true, .pointer (some ⟨g, pre.length, none⟩), .int .i64 o.at_, .map (some bM), .int .i64 o.at_, .int .i64 (dst 0 L o.at_ : Nat), .pointer (some ⟨bh, 0, none⟩), .int .i64 o.at_, .agg #[.pointer (some ⟨bh, 0, none⟩), .int .i64 o.at_], .func (.func 122) #[.agg #[.pointer (some ⟨bh, 0, none⟩), .int .i64 o.at_]] #[], lkv x.val, x31, x32, x33, x34, x35, x36, x37, x38, x39, x40, x41, x42, x43, x44], defers := [] })
        (fun x a' s W W' row hs hg hr => by
          obtain ⟨Bx, q1, q2, q3⟩ := hs
          exact ⟨Bx, q1, (cells_stay hg hr q2).trans q2, q3⟩)
        ?assign ?body ?done
      case assign =>
        rintro l mm pre' x W K ⟨⟨cs', vl', q1, q2, q3, q4⟩, q5, q6, q7, q8, q9, q10, q0⟩ hK
        have hup : ∀ k, Upto P (w1.heap.size + 1 + 1) mm k → k < W.heap.size := fun k hk => by
          rcases hk with hk | hk
          · have := hP3 k hk; omega
          · omega
        have hB' := below1 W (.cells #[.int .i64 x.val.word, .int .i64 x.val.to, .int .u64 x.val.more] 132)
        simp only [lkv]
        gi_wp2
        refine hK _ _ ((KeepsOthers.alloc _ _).from _) (fun k hk => hB'.block k (hup k hk)) ⟨⟨cs', vl', q1.alloc _, q2.alloc _, q3, q4.below hB'⟩, q5.alloc _, q6.alloc _, q7.alloc _, q8.trans (hB'.mono q8.size), fun D hD => ⟨(q9 D hD).1, below_keeps hB' D _ (q9 D hD).2 rfl⟩, Nat.le_trans q10 hB'.size, Nat.le_trans q0 hB'.size⟩ ⟨W.heap.size, q10, heap_alloc_new W _, rfl⟩
      case body =>
        rintro l mm pre' x a' W hl hmm ⟨⟨cs', vl', q1, q2, q3, q4⟩, q5, q6, q7, q8, q9, q10, q0⟩ ⟨Bx, q11, q12, rfl⟩ hlt
        have hup : ∀ k, Upto P (w1.heap.size + 1 + 1) mm k → k < W.heap.size := fun k hk => by
          rcases hk with hk | hk
          · have := hP3 k hk; omega
          · omega
        obtain ⟨l1, l2, l3, l4⟩ := hlto x.val x.property
        obtain ⟨cc, hrun, hcc⟩ := (hmv.kept (q8.block _ hmv.lt)).look x.val.to l1 l2
        have d6 := q5.cell
        have d7 : W.cell? ⟨Bx, 1, none⟩ = some (.int .i64 x.val.to) := by rw [cell_of_row W Bx 1 _ _ _ q12]; rfl
        have hxl : cs'.length ≤ (wrs M (dst 0 L) pre).length + pre'.length := by
          have e1 := q4.length
          have e2 := wrsOf_len (dst 0 L) o (pre'.map (·.val))
          rw [List.length_append] at e1
          rw [List.length_map] at e2
          omega
        rw [List.length_attach] at hlt
        by_cases hdx : dst 0 L x.val.to = x.val.to
        · have e0 : decide (dst 0 L x.val.to ≠ x.val.to) = false := by simp [hdx]
          rw [e0] at hrun
          have HX : Hid _ := hdx
          clear e0 hcc hdx
          gi_wp2
          have hB' := below1 W (.cells #[.int .i64 cc] 2)
          refine ⟨((KeepsOthers.alloc _ _).from _), fun k hk => hB'.block k (hup k hk), ⟨cs', vl', q1.alloc _, q2.alloc _, q3, ?_⟩, q5.alloc _, q6.alloc _, q7.alloc _, q8.trans (hB'.mono q8.size), fun D hD => ⟨(q9 D hD).1, below_keeps hB' D _ (q9 D hD).2 rfl⟩, Nat.le_trans q10 hB'.size, Nat.le_trans q0 hB'.size⟩
          rw [List.map_append, List.map_cons, List.map_nil, wrsOf_snoc, if_neg (fun h => h HX.out), List.append_nil]
          exact q4.below hB'
        · have e0 : decide (dst 0 L x.val.to ≠ x.val.to) = true := by simp [hdx]
          rw [e0, hcc hdx] at hrun
          have HX : Hid _ := hdx
          have d8 := cell_alloc_l (.cells #[.int .i64 (dst 0 L x.val.to : Nat)] 2) q1.cell
          have cn := cell_one_new (W.alloc (.cells #[.int .i64 (dst 0 L x.val.to : Nat)] 2)) (.func (.func 173) #[] #[.pointer (some ⟨w.heap.size + 1, 0, none⟩), .pointer (some ⟨wr.heap.size, 0, none⟩), .pointer (some ⟨Bx, 0, none⟩), .pointer (some ⟨W.heap.size, 0, none⟩)]) 1
          rw [World.size_alloc] at cn
          clear e0 hcc hdx
          gi_wp2_with (first
            | (gi_at_builtin; refine wpListIn_append_own_at _ rfl _ _ 102 rfl (w.heap.size + 3) 1 i0 .nilFunc 1 8 Tryz.underlying102 hi hz0 hz1 hz2 rfl (by decide) _ _ _ rfl ((q2.alloc _).alloc _) ⟨W.heap.size + 1, 0, none⟩ 1 1 _ rfl rfl cn (by simp [Value.oneCell']) (by unfold maxLen; omega) (by omega) (by simp; omega) ?_; intro v' w2 hown' hgrow _ hat; obtain ⟨g', cap', rfl⟩ := ownsRow_succ hown'; obtain ⟨hv1, hv2, hr2, hk2, hb2, ho1, ho2, ho3⟩ := boxed_appended (q1.alloc _) (q2.alloc _) (by simp; omega) (by omega) hown' hgrow; have hc1 := hv1.cell; have hf1 := hv1.frozen))
          have hBl : w.heap.size + 1 + 1 < W.heap.size := q1.lt
          have hV : ∀ k, k < W.heap.size → k ≠ w.heap.size + 1 + 1 → some k ≠ vl'.ownBlock → (w2.setCell ⟨w.heap.size + 1 + 1, 0, none⟩ (.slice (some ⟨g', 0, none⟩) (cs'.length + 1) cap')).heap[k]? = W.heap[k]? := by
            intro k hk h2 h3
            rw [heap_setCell_other w2 ⟨w.heap.size + 1 + 1, 0, none⟩ k _ h2, hgrow.block k (by simp; omega) h3]
            exact (Below.heap_alloc _ _ _ (by simp; omega)).trans (Below.heap_alloc _ _ _ hk)
          have hVc : ∀ (k : Nat) (cur : Array Value) (t : TypeId) (fr : Nat × Nat), W.heap[k]? = some (Obj.cells cur t fr) → t ≠ 1 → t ≠ 102 → (w2.setCell ⟨w.heap.size + 1 + 1, 0, none⟩ (.slice (some ⟨g', 0, none⟩) (cs'.length + 1) cap')).heap[k]? = W.heap[k]? := by
            intro k cur t fr hk h2 h3
            refine hV k (Array.getElem?_eq_some_iff.1 hk).1 (fun e => ?_) (fun e => ?_)
            · have := q1; unfold Boxed at this; rw [← e, hk] at this; cases this; exact h3 rfl
            · obtain ⟨cur', hc⟩ := IsAr.row_type q2 e.symm
              rw [hk] at hc; cases hc; exact h2 rfl
          have hVD : ∀ (k : Nat) (o : Obj), W.heap[k]? = some o → o.isCells = false → (w2.setCell ⟨w.heap.size + 1 + 1, 0, none⟩ (.slice (some ⟨g', 0, none⟩) (cs'.length + 1) cap')).heap[k]? = some o := by
            intro k o hk ho
            refine (hV k (Array.getElem?_eq_some_iff.1 hk).1 (fun e => ?_) (fun e => ?_)).trans hk
            · have := q1; unfold Boxed at this; rw [← e, hk] at this; cases this; simp [Obj.isCells] at ho
            · obtain ⟨cur', hc⟩ := IsAr.row_type q2 e.symm
              rw [hk] at hc; cases hc; simp [Obj.isCells] at ho
          have hsz2 := hk2.size
          rw [World.size_alloc] at hsz2
          have hnew : (w2.setCell ⟨w.heap.size + 1 + 1, 0, none⟩ (.slice (some ⟨g', 0, none⟩) (cs'.length + 1) cap')).heap[W.heap.size]? = some (.cells #[.int .i64 (dst 0 L x.val.to : Nat)] 2 (0, 0)) :=
            (grows_stay (q1.alloc (.cells #[.int .i64 (dst 0 L x.val.to : Nat)] 2)) (q2.alloc (.cells #[.int .i64 (dst 0 L x.val.to : Nat)] 2)) hgrow (heap_alloc_new W _) (by decide) (by decide)).trans (heap_alloc_new W _)
          have hBV : Below w.heap.size W (w2.setCell ⟨w.heap.size + 1 + 1, 0, none⟩ (.slice (some ⟨g', 0, none⟩) (cs'.length + 1) cap')) :=
            ⟨ho1, ho2, ho3, by omega, fun k hk => hV k (by omega) (by omega) (fun e => by have := (q2.lt k e.symm).1; omega)⟩
          refine ⟨((KeepsOthers.alloc _ _).trans hk2).from _, fun k hk => ?_, ⟨cs' ++ [_], _, hv2, by simpa using hr2, ?_, ?_⟩, (hVc _ _ _ _ q5 (by decide) (by decide)).trans q5, (hVc _ _ _ _ q6 (by decide) (by decide)).trans q6, (hVc _ _ _ _ q7 (by decide) (by decide)).trans q7, q8.trans hBV, fun D hD => ⟨(q9 D hD).1, hVD D _ (q9 D hD).2 rfl⟩, by omega, by omega⟩
          · have hk0 := hup k hk
            have hb3 := b3.lt
            rcases hk with hk | hk
            · have hk' := hP3 k hk
              refine hV k hk0 (by omega) (fun e => ?_)
              have h5 := (q2.lt k e.symm).1
              omega
            · refine hV k hk0 (by omega) (fun e => ?_)
              have h6 := q3 k e.symm
              omega
          · intro k e
            rcases hat with e' | e'
            · exact q3 k (e'.symm.trans e)
            · rw [e'] at e
              simp at e
              omega
          · rw [List.map_append, List.map_cons, List.map_nil, wrsOf_snoc, if_pos HX.out, ← List.append_assoc]
            refine Clos.snoc (q4.kept (fun k cur t hk ht => hVc k cur t _ hk (by rcases ht with rfl | rfl | rfl <;> decide) (by rcases ht with rfl | rfl | rfl <;> decide))) ?_
            exact ⟨w.heap.size + 1, wr.heap.size, Bx, W.heap.size, x.val.to, dst 0 L x.val.to, x.val.more, rfl, (hVc _ _ _ _ q6 (by decide) (by decide)).trans q6, (hVc _ _ _ _ q7 (by decide) (by decide)).trans q7, (hVc _ _ _ _ q12 (by decide) (by decide)).trans q12, hnew, rfl, l2, l3, l4⟩
      case done =>
        rintro D mm W hD - ⟨⟨cs', vl', q1, q2, q3, q4⟩, q5, q6, q7, q8, q9, q10, q0⟩ hK
        rw [show (links M o).attach.map (fun x => x.val) = links M o from List.attach_map_subtype_val (links M o)] at q4
        have e1 : (((pre ++ [o]).length : Nat) : Int) = pre.length + 1 := by simp
        gi_wp2
        refine ⟨_, _, _, _, _, _, _, _, _, _, _, _, _, _, _, _, _, _, _, _, _, _, _, _, _, _, _, _, _, _, _, _, _, _, _, _, _, _, _, pre ++ [o], rest, cs', vl', D :: Ds, by rw [e1]; rfl, by rw [HR.out]; simp, q5, q6, q1, q2, by rw [wrs_snoc]; exact q4, q8, by omega, ?_, ?_, hNr⟩
        · intro E hE
          rcases List.mem_cons.1 hE with rfl | hE
          · exact ⟨by omega, hK⟩
          · exact q9 E hE
        · exact List.nodup_cons.2 ⟨fun hE => by have := hDl D hE; omega, hDn⟩

end Go.Proofs.YtampilfebmfhaaaGreatDoor
