/- gc's reached: the places of all objects that roots lead to. -/
import Derived.Test.YtkombdkhodjckaaGreatStay
import Derived.Test.YtkombdkhodjckaaGreatGcAll
import Derived.Test.YtkombdkhodjckaaGreatGcVals
namespace Go.Proofs.YtkombdkhodjckaaGreat
set_option linter.unusedVariables false
set_option linter.unusedSimpArgs false
open Go.RowKit Go.Shelf

attribute [local go_sem] Oper.semAt_some

variable {n₀ bh b lim used : Nat} {vw vb : Value} {w : World} {M : List Ob}

theorem infoB : (Tryz.prog.info? 4).map (fun i => (i.zero, i.size, i.bytes)) = some (some (.bool false), 1, 1) := by kernel_rfl

theorem makeBools (size : Nat) (hs : size ≤ 1048576) (W : World) :
    (Instr.makeSlice 120 (.int .i64 size) (.int .i64 size)).run Tryz.prog W = .ok (.slice (some ⟨W.heap.size, 0, none⟩) size size) (W.alloc (.cells (madeCells #[.bool false] size) 4)) := by
  obtain ⟨i0, hi, hz0, hz1, hz2⟩ := info_parts infoB
  have := run_make (P := Tryz.prog) W 120 4 i0 (.bool false) Tryz.underlying120 hi hz0 .i64 .i64 size size (by omega) (Int.le_refl _) (by rw [hz2]; omega) (by omega)
  rw [hz1] at this
  simpa [Value.cells] using this

/-- The box of the variable that holds the marks. -/
def MBox (W : World) (Bm bm : Nat) : Prop := W.heap[Bm]? = some (.cells #[.pointer (some ⟨bm, 0, none⟩)] 119 (0, 0))

theorem MBox.cell {W : World} {Bm bm : Nat} (h : MBox W Bm bm) : W.cell? ⟨Bm, 0, none⟩ = some (.pointer (some ⟨bm, 0, none⟩)) := by rw [cell_of_row W Bm 0 _ _ _ h]; rfl

theorem MBox.lt {W : World} {Bm bm : Nat} (h : MBox W Bm bm) : Bm < W.heap.size := (Array.getElem?_eq_some_iff.1 h).1

theorem MBox.below {W W' : World} {Bm bm : Nat} (h : MBox W Bm bm) (hB : Below W.heap.size W W') : MBox W' Bm bm := (hB.block Bm h.lt).trans h

theorem MBox.step {n₁ bm' : Nat} {vs vt vt' : Value} {W W' : World} {m : Mk} {Bm bm : Nat} (h : MBox W Bm bm) (hm : IsMk n₁ bm' vs vt W m) (hS : MStep bm' vs vt W vt' W') : MBox W' Bm bm := by
  refine (hS.block Bm h.lt ?_ ?_ ?_).trans h
  · intro e; have := hm.blk; rw [← e, h] at this; simp at this
  · intro e; obtain ⟨cur, hc⟩ := IsAr.row_type hm.rs e.symm; rw [h] at hc; simp at hc
  · intro e; obtain ⟨cur, hc⟩ := IsAr.row_type hm.rt e.symm; rw [h] at hc; simp at hc

/-- The marks at the start. -/
theorem start_marks (w : World) (used : Nat) (hu : used ≤ 1048576) {W : World} (hW : ((w.alloc (.cells (madeCells #[.bool false] used) 4)).alloc (.cells #[.slice (some ⟨w.heap.size, 0, none⟩) used used, .slice none 0 0] 122)).alloc (.cells #[.pointer (some ⟨w.heap.size + 1, 0, none⟩)] 119) = W) :
    IsMk w.heap.size (w.heap.size + 1) (.slice (some ⟨w.heap.size, 0, none⟩) used used) (.slice none 0 0) W ⟨List.replicate used false, []⟩ ∧ MBox W (w.heap.size + 1 + 1) (w.heap.size + 1) ∧ Below w.heap.size w W := by
  have g0 : W.heap[w.heap.size]? = some (.cells (madeCells #[.bool false] used) 4 (0, 0)) := by
    rw [← hW, Below.heap_alloc _ _ w.heap.size (by simp; omega), Below.heap_alloc _ _ w.heap.size (by simp)]; exact heap_alloc_new w _
  have g1 : W.heap[w.heap.size + 1]? = some (.cells #[.slice (some ⟨w.heap.size, 0, none⟩) used used, .slice none 0 0] 122 (0, 0)) := by
    have := heap_alloc_new (w.alloc (.cells (madeCells #[.bool false] used) 4)) (.cells #[.slice (some ⟨w.heap.size, 0, none⟩) used used, .slice none 0 0] 122)
    rw [World.size_alloc] at this
    rw [← hW, Below.heap_alloc _ _ (w.heap.size + 1) (by simp)]; exact this
  have g2 : W.heap[w.heap.size + 1 + 1]? = some (.cells #[.pointer (some ⟨w.heap.size + 1, 0, none⟩)] 119 (0, 0)) := by
    have := heap_alloc_new ((w.alloc (.cells (madeCells #[.bool false] used) 4)).alloc (.cells #[.slice (some ⟨w.heap.size, 0, none⟩) used used, .slice none 0 0] 122)) (.cells #[.pointer (some ⟨w.heap.size + 1, 0, none⟩)] 119)
    rw [World.size_alloc, World.size_alloc] at this
    rw [← hW]; exact this
  refine ⟨⟨by omega, g1, ?_, World.ownsRow_nil _ _ _ _, by simpa using hu, by simp⟩, g2, ?_⟩
  · refine ⟨by simp, .inr ⟨w.heap.size, used, madeCells #[.bool false] used, by simp, Nat.le_refl _, g0, by simp, by unfold maxLen; omega, by simp [madeCells], ?_⟩⟩
    rw [madeCells_one]
    simp
  · rw [← hW]; exact ((below1 w _).alloc (by simp) _).alloc (by simp; omega) _

/-- The marks of loops that are over. -/
def marksOf (Ds : List Nat) : List Deferred := Ds.map (fun D => { target := .collected D, args := #[] })

theorem leaves_marks {P : Program} {F : Fence} {n : Nat} {fn : Func} {tmps : Array Value} {R : Ending → World → Prop} : ∀ (Ds : List Nat) (w : World), (∀ D ∈ Ds, w.heap[D]? = some (.deferred (some []))) → Ds.Nodup →
    (∀ w', (∀ k, k ∉ Ds → w'.heap[k]? = w.heap[k]?) → w'.heap.size = w.heap.size → w'.os = w.os → w'.tape = w.tape → w'.output = w.output → LeavesIn F n P fn tmps R [] .returning w') → LeavesInM F n P fn tmps R (marksOf Ds) .returning w
  | [], w, _, _, h => h w (fun _ _ => rfl) rfl rfl rfl rfl
  | D :: Ds, w, hD, hn, h => by
    obtain ⟨hn1, hn2⟩ := List.nodup_cons.1 hn
    refine ⟨by simp, .inl ⟨D, _, rfl, run_takeDeferred (hD D (by simp)), ?_⟩⟩
    refine leaves_marks Ds _ ?_ hn2 ?_
    · intro E hE
      rw [World.putObj_heap_other (fun e => hn1 (by rw [← e]; exact hE))]
      exact hD E (by simp [hE])
    · intro w' h1 h2 h3 h4 h5
      refine h w' ?_ (h2.trans (by simp)) (h3.trans rfl) (h4.trans rfl) (h5.trans rfl)
      intro k hk
      simp at hk
      rw [h1 k hk.2, World.putObj_heap_other hk.1]

theorem eq_nil_or_snoc {α : Type} : ∀ (T : List α), T = [] ∨ ∃ T' a, T = T' ++ [a]
  | [] => .inl rfl
  | x :: r => by
    rcases eq_nil_or_snoc r with rfl | ⟨T', a, rfl⟩
    · exact .inr ⟨[], x, rfl⟩
    · exact .inr ⟨x :: T', a, rfl⟩

theorem wpIn_loop_rel {F : Fence} {n : Nat} {P : Program} {Q : Exit → Act → World → Prop} {a : Act} {w : World} {c : Code} (Rel : Nat → Act → World → Prop) (N : Nat) (h : Rel N a w) (h0 : ∀ A W, ¬ Rel 0 A W)
    (hs : ∀ N A W, Rel (N + 1) A W → c.wpIn F n P (Exit.then (fun a' w' => Rel N a' w') Q) A W) : (Code.loop c).wpIn F n P Q a w := by
  refine wpIn_loop_rounds N ?_
  have key : ∀ N A W, Rel N A W → Code.roundsIn F n P c Q N A W := by
    intro N
    induction N with
    | zero => intro A W hr; exact (h0 A W hr).elim
    | succ N ih =>
      intro A W hr
      rw [roundsIn_succ]
      exact Code.wpIn_mono (fun e a w q => by cases e <;> first | exact ih _ _ q | exact q) (hs N A W hr)
  exact key N a w h

/-- next, whatever is there. -/
theorem next_in {n₁ bm : Nat} {vs vt : Value} {w : World} {m : Mk} (h : IsMk n₁ bm vs vt w m) : Calls Tryz.prog 74 #[.pointer (some ⟨bm, 0, none⟩)] w fun e w' => ∃ (a : Nat) (ok : Bool) (vt' : Value) (m' : Mk), e = .returned (.tuple #[.int .i64 a, .bool ok]) ∧
    IsMk n₁ bm vs vt' w' m' ∧ MStep bm vs vt w vt' w' ∧ ((ok = false ∧ m.T = [] ∧ m' = m) ∨ (ok = true ∧ m = ⟨m'.S, m'.T ++ [a]⟩)) := by
  obtain ⟨S, T⟩ := m
  rcases eq_nil_or_snoc T with rfl | ⟨T', a, rfl⟩
  · refine (next_none h rfl).mono ?_
    rintro e w' ⟨he, rfl⟩
    exact ⟨0, false, vt, _, by simpa using he, h, MStep.refl _ _ _ _, .inl ⟨rfl, rfl, rfl⟩⟩
  · refine (next_some h).mono ?_
    rintro e w' ⟨he, vt', h', hS⟩
    exact ⟨a, true, vt', _, he, h', hS, .inr ⟨rfl, rfl⟩⟩

/-- What stands at the head of the loop over what is to be followed. -/
def ReachRel (bh Bm bm : Nat) (vS : Value) (M : List Ob) (vs : List Vl) (used : Nat) (w : World) (N : Nat) (A : Act) (wr : World) : Prop :=
  ∃ (x1 x2 x3 x4 x6 x7 x10 x11 x12 x13 x14 x15 x16 x17 x18 x19 x20 x21 x22 x23 x24 x25 x26 x27 x28 x29 x30 x31 x32 x33 x34 x35 x36 x37 x38 x39 x40 x41 x42 x43 x44 x45 x46 x47 x48 x49 x50 x51 : Value) (a : Nat) (ok : Bool) (m m' : Mk) (vt : Value) (Ds : List Nat),
    A = { tmps := #[.pointer (some ⟨bh, 0, none⟩), x1, x2, x3, x4, .pointer (some ⟨Bm, 0, none⟩), x6, x7, .int .i64 a, .bool ok, x10, x11, x12, x13, x14, x15, x16, x17, x18, x19, x20, x21, x22, x23, x24, x25, x26, x27, x28, x29, x30, x31, x32, x33, x34, x35, x36, x37, x38, x39, x40, x41, x42, x43, x44, x45, x46, x47, x48, x49, x50, x51], defers := marksOf Ds } ∧
    IsMk w.heap.size bm vS vt wr m' ∧ Walk M vs used m ∧ ((ok = false ∧ m.T = [] ∧ m' = m) ∨ (ok = true ∧ m = ⟨m'.S, m'.T ++ [a]⟩)) ∧ MBox wr Bm bm ∧ Below w.heap.size w wr ∧
    (∀ D ∈ Ds, w.heap.size ≤ D ∧ wr.heap[D]? = some (.deferred (some []))) ∧ Ds.Nodup ∧ m.left + 1 ≤ N

theorem marksOf_keep {Ds : List Nat} {w wr w' : World} (h : ∀ D ∈ Ds, w.heap.size ≤ D ∧ wr.heap[D]? = some (.deferred (some []))) (hk : ∀ (k : Nat) (o : Obj), wr.heap[k]? = some o → o.isCells = false → w'.heap[k]? = some o) : ∀ D ∈ Ds, w.heap.size ≤ D ∧ w'.heap[D]? = some (.deferred (some [])) :=
  fun D hD => ⟨(h D hD).1, hk D _ (h D hD).2 rfl⟩

theorem below_keeps {A B : World} (h : Below A.heap.size A B) : ∀ (k : Nat) (o : Obj), A.heap[k]? = some o → o.isCells = false → B.heap[k]? = some o :=
  fun k o hk _ => (h.block k (Array.getElem?_eq_some_iff.1 hk).1).trans hk

set_option maxRecDepth 100000 in
set_option maxHeartbeats 2000000 in
theorem reached_in (h : Hp n₀ bh b vw vb w lim used M) {p : Option Addr} {vs : List Vl} (c : Nat) (hv : Vals w p vs) (hlen : vs.length ≤ 1000000) :
    Calls Tryz.prog 34 #[.pointer (some ⟨bh, 0, none⟩), .slice p vs.length c] w fun e w' => ∃ S q c, (∀ i : Nat, S[i]? = some true ↔ Rch M vs i) ∧ S.length = used ∧ e = .returned (.slice q (marked 0 S).length c) ∧
      w'.ownsRow w.heap.size 2 1 (.slice q (marked 0 S).length c) (marked 0 S).length ((marked 0 S).map pv) ∧ Below w.heap.size w w' := by
  refine (callsIn_wide (n := 3)).1 ?_
  have h1 : 1 ≤ 3 := by omega
  refine callsIn_of_wp_marks Tryz.func34 rfl trivial ?_ rfl
  simp only [Tryz.ntmps34, List.size_toArray, List.length_cons, List.length_nil, Nat.reduceAdd, Nat.reduceSub, Array.replicate_succ, Array.replicate_zero, List.push_toArray, List.append_toArray, List.nil_append, List.cons_append]
  have hus : used ≤ 1048576 := by have := h.le; omega
  have hmk := makeBools used hus
  have H1 := usedM h
  gi_wp2_with (first
    | (refine ⟨trivial, ?_⟩; gi_at_call 13; refine (callsIn_wide.2 H1).mono ?_; clear H1; rintro e w' ⟨rfl, rfl⟩))
  obtain ⟨w, hww⟩ : ∃ w, w = w' := ⟨_, rfl⟩
  subst hww
  have hu : ∀ o ∈ M, o.at_ < used := fun o ho => by have := h.srt.2 o ho; unfold Ob.end_ at this; omega
  obtain ⟨W0, hW0⟩ : ∃ W0, ((w.alloc (.cells (madeCells #[.bool false] used) 4)).alloc (.cells #[.slice (some ⟨w.heap.size, 0, none⟩) used used, .slice none 0 0] 122)).alloc (.cells #[.pointer (some ⟨w.heap.size + 1, 0, none⟩)] 119) = W0 := ⟨_, rfl⟩
  obtain ⟨s1, s2, s3⟩ := start_marks w used hus hW0
  rw [hW0]
  clear hW0 hmk
  obtain ⟨bm, hbm⟩ : ∃ bm, w.heap.size + 1 = bm := ⟨_, rfl⟩
  obtain ⟨vS, hvS⟩ : ∃ vS, Value.slice (some ⟨w.heap.size, 0, none⟩) used used = vS := ⟨_, rfl⟩
  rw [hvS] at s1 ⊢
  rw [hbm] at s1 s2 ⊢
  obtain ⟨Bm, hBm⟩ : ∃ Bm, bm + 1 = Bm := ⟨_, rfl⟩
  rw [hBm] at s2 ⊢
  clear hvS hbm hBm
  gi_loopw [18] (fun k wr => ∃ (pre rest : List Vl) (m : Mk) (vt : Value), k = .int .i64 pre.length ∧ vs = pre ++ rest ∧ IsMk w.heap.size bm vS vt wr m ∧ WalkR M vs used pre m ∧ MBox wr Bm bm ∧ Below w.heap.size w wr) (fun k _ => vs.length - (intOf k).toNat)
  case atStart => exact ⟨[], vs, _, _, rfl, rfl, s1, WalkR.start M vs used, s2, s3⟩
  case round =>
    obtain ⟨pre, rest, m, vt, rfl, hR, hm, hwk, hbx, hB⟩ := hrel
    cases rest with
    | nil =>
      have hR' : vs = pre := by simpa using hR
      have hq : ¬ ((pre.length : Int) < (vs.length : Int)) := by rw [hR']; omega
      have hwalk : Walk M vs used m := WalkR.walk (by rw [hR'] at hwk ⊢; exact hwk)
      have hc := hbx.cell
      clear hR hR' hwk s1 s2 s3
      have H3 := next_in hm
      gi_wp2_with (first
          | (refine ⟨trivial, ?_⟩; gi_at_call 74; refine (callsIn_wide.2 H3).mono ?_; clear H3; rintro e w3 ⟨a3, ok3, vt3, m3, rfl, hm3, hS3, hnx⟩))
      refine wpIn_loop_rel (ReachRel bh Bm bm vS M vs used w) (m.left + 1) ⟨_, _, _, _, _, _, _, _, _, _, _, _, _, _, _, _, _, _, _, _, _, _, _, _, _, _, _, _, _, _, _, _, _, _, _, _, _, _, _, _, _, _, _, _, _, _, _, _, a3, ok3, m, m3, vt3, [], rfl, hm3, hwalk, hnx, hbx.step hm hS3, hB.trans (hS3.below hm), by simp, by simp, Nat.le_refl _⟩ ?_ ?_
      · rintro A W ⟨_, _, _, _, _, _, _, _, _, _, _, _, _, _, _, _, _, _, _, _, _, _, _, _, _, _, _, _, _, _, _, _, _, _, _, _, _, _, _, _, _, _, _, _, _, _, _, _, _, _, _, _, _, _, _, _, _, _, _, _, _, _, hle⟩
        omega
      · rename World => wo
        clear hc hnx hm hm3 hS3 hwalk hbx hB
        rintro N A wr ⟨x1, x2, x3, x4, x6, x7, x10, x11, x12, x13, x14, x15, x16, x17, x18, x19, x20, x21, x22, x23, x24, x25, x26, x27, x28, x29, x30, x31, x32, x33, x34, x35, x36, x37, x38, x39, x40, x41, x42, x43, x44, x45, x46, x47, x48, x49, x50, x51, a, ok, m, m', vt, Ds, rfl, hm, hwalk, hnx, hbx, hB, hDs, hDn, hN⟩
        have hc := hbx.cell
        cases ok with
        | false =>
          obtain ⟨hT, rfl⟩ : m.T = [] ∧ m' = m := by simpa using hnx
          have hend := hwalk.end hT
          have hlenS := hwalk.len
          have H4 := places_mk hm
          clear hnx
          gi_wp2_with (first
            | (refine ⟨trivial, ?_⟩; gi_at_call 77; refine (callsIn_wide.2 H4).mono ?_; clear H4; rintro e w4 ⟨q4, c4, rfl, hrow4, hB4⟩))
          show LeavesInM Fence.wide 3 Tryz.prog Tryz.f34 _ _ (marksOf Ds) .returning w4
          refine leaves_marks Ds w4 (fun D hD => below_keeps hB4 D _ (hDs D hD).2 rfl) hDn ?_
          intro w5 g1 g2 g3 g4 g5
          have hB04 : Below w.heap.size w w4 := hB.trans (hB4.mono hB.size)
          refine ⟨_, results_tmp rfl _ _ _, m'.S, q4, c4, hend, hlenS, rfl, ?_, ?_⟩
          · refine row_kept (row_mono' hrow4 hB.size) (fun k hk => g1 k (fun hD => ?_))
            obtain ⟨cur, hc'⟩ := IsAr.row_type hrow4 hk
            have := below_keeps hB4 k _ (hDs k hD).2 rfl
            rw [hc'] at this
            simp at this
          · exact ⟨g3.trans hB04.os, g4.trans hB04.tape, g5.trans hB04.output, by rw [g2]; exact hB04.size, fun k hk => (g1 k (fun hD => by have := (hDs k hD).1; omega)).trans (hB04.block k hk)⟩
        | true =>
          obtain rfl : m = ⟨m'.S, m'.T ++ [a]⟩ := by simpa using hnx
          obtain ⟨o, ho, rfl⟩ := (hwalk.sound a (hwalk.todo a (by simp))).mem
          obtain ⟨lq, rq, hM⟩ := List.append_of_mem ho
          have H5 := holds_in (bh := bh) (o.at_ : Int) wr
          clear hnx
          gi_wp2_with (first
            | (refine ⟨trivial, ?_⟩; gi_at_call 75; refine (callsIn_wide.2 H5).mono ?_; clear H5; rintro e w1 ⟨rfl, hB1⟩))
          have hWr := (h.below hB).below hB1
          rw [hM] at hWr
          have hs1 := hB1.size
          have hs0 := hB.size
          have hbk := h.blocks
          have hDl : ∀ D ∈ Ds, D < wr.heap.size := fun D hD => (Array.getElem?_eq_some_iff.1 (hDs D hD).2).1
          have hBW : Below w.heap.size w w1 := hB.trans (hB1.mono hB.size)
          obtain ⟨P, hP⟩ : ∃ P : Nat → Prop, P = fun k => (k = bh ∨ k = b ∨ vw.ownBlock = some k ∨ vb.ownBlock = some k) := ⟨_, rfl⟩
          have hP1 : Heaps bh b vw vb P := fun k hk => by rw [hP]; exact hk
          have hP3 : ∀ k, P k → k < w.heap.size := fun k hk => by rw [hP] at hk; exact (hbk k hk).2.1
          have hT := fun (V : World) (hV : Below w1.heap.size w1 V) (L : List Lk) (xs : List { x : Lk // x ∈ L }) hxs => links_tells (L := L) hP1 (fun k hk => by have := hP3 k hk; have := hV.size; omega) (hWr.below hV) xs hxs
          rw [← hM] at hT
          have hT' := fun (V : World) (hV : Below w1.heap.size w1 V) => hT V hV (links M o) (links M o).attach (List.attach_map_subtype_val (links M o))
          have hlto : ∀ x ∈ links M o, x.to < used := fun x hx => by
            obtain ⟨q, hq, e⟩ := links_mem hx
            have := hu q hq; omega
          have hlenS : m'.S.length = used := hwalk.len
          have hfit : m'.room ≤ used := by have := hwalk.fit; unfold Mk.room at this ⊢; simp at this; omega
          clear hT
          refine wp_range_method h1 rfl (enters_of Tryz.func76 (by kernel_rfl) rfl) (fun k hk => by have := hP3 k hk; omega) hT' (fun _ => rfl)
            (fun mm pre W => (∃ vt', IsMk w.heap.size bm vS vt' W (m'.adds (pre.map (·.val))) ∧ (∀ k, vt'.ownBlock = some k → k < w1.heap.size ∨ mm ≤ k)) ∧ MBox W Bm bm ∧ Below w.heap.size w W ∧ (∀ D ∈ Ds, w.heap.size ≤ D ∧ W.heap[D]? = some (.deferred (some []))) ∧ w1.heap.size ≤ W.heap.size ∧ mm ≤ W.heap.size)
            (fun mm s W W' row hs hg hr => by
              obtain ⟨⟨vt', q1, q2⟩, q3, q4, q5, q6, q7⟩ := hs
              refine ⟨⟨vt', q1.grown hg (fun r e => (hr r e).2), q2⟩, ?_, (ownFrom_below (β := Unit) (Nat.le_refl _) (by omega)) () W W' row q4 hg hr, fun D hD => ⟨(q5 D hD).1, ?_⟩, Nat.le_trans q6 hg.size, Nat.le_trans q7 hg.size⟩
              · refine (hg.block Bm q3.lt (fun e => ?_)).trans q3
                obtain ⟨_, o', ho', hn'⟩ := hr Bm e.symm
                rw [q3] at ho'; cases ho'; simp [Obj.isCells] at hn'
              · refine (hg.block D (by have := hDl D hD; omega) (fun e => ?_)).trans (q5 D hD).2
                have := (hr D e.symm).1; have := hDl D hD; omega)
            (fun W hW => ⟨⟨vt, (hm.below hB1).below hW, fun k e => .inl (by have := (hm.rt.lt k e).2; omega)⟩, (hbx.below hB1).below hW, hBW.trans (hW.mono hBW.size), fun D hD => ⟨(hDs D hD).1, below_keeps hW D _ (below_keeps hB1 D _ (hDs D hD).2 rfl) rfl⟩, hW.size, Nat.le_refl _⟩)
            (fun x a' W => ∃ Bx, w1.heap.size ≤ Bx ∧ W.heap[Bx]? = some (.cells #[.int .i64 x.val.word, .int .i64 x.val.to, .int .u64 x.val.more] 131 (0, 0)) ∧ a' = { tmps := #[.pointer (some ⟨bh, 0, none⟩), x1, x2, x3, x4, .pointer (some ⟨Bm, 0, none⟩), x6, x7, .int .i64 o.at_, .bool true, .pointer (some ⟨Bx, 0, none⟩), x11, x12, x13, x14, x15, x16, x17, x18, x19, x20, x21, x22, x23, x24, x25, x26, x27, x28, x29, x30, x31, x32, x33, x34, .bool true, x36, x37, x38, x39, x40, .pointer (some ⟨bh, 0, none⟩), .int .i64 o.at_, .agg #[.pointer (some ⟨bh, 0, none⟩), .int .i64 o.at_], .func (.func 76) #[.agg #[.pointer (some ⟨bh, 0, none⟩), .int .i64 o.at_]] #[], lkv x.val, x46, x47, x48, x49, x50, x51], defers := [] })
            (fun x a' s W W' row hs hg hr => by
              obtain ⟨Bx, q1, q2, q3⟩ := hs
              refine ⟨Bx, q1, (hg.block Bx (Array.getElem?_eq_some_iff.1 q2).1 (fun e => ?_)).trans q2, q3⟩
              obtain ⟨_, o', ho', hn'⟩ := hr Bx e.symm
              rw [q2] at ho'; cases ho'; simp [Obj.isCells] at hn')
            ?assign ?body ?done
          case assign =>
            rintro l mm pre x W K ⟨⟨vt', q1, q2⟩, q3, q4, q5, q6, q7⟩ hK
            have hB' := below1 W (.cells #[.int .i64 x.val.word, .int .i64 x.val.to, .int .u64 x.val.more] 131)
            simp only [lkv]
            gi_wp2
            refine hK _ _ ((KeepsOthers.alloc _ _).from _) (fun k hk => hB'.block k ?_) ⟨⟨vt', q1.below hB', q2⟩, q3.below hB', q4.trans (hB'.mono q4.size), fun D hD => ⟨(q5 D hD).1, below_keeps hB' D _ (q5 D hD).2 rfl⟩, Nat.le_trans q6 hB'.size, Nat.le_trans q7 hB'.size⟩ ⟨W.heap.size, q6, heap_alloc_new W _, rfl⟩
            rcases hk with hk | hk
            · have := hP3 k hk; omega
            · omega
          case body =>
            rintro l mm pre x a' W hl hmm ⟨⟨vt', q1, q2⟩, q3, q4, q5, q6, q0⟩ ⟨Bx, q7, q8, rfl⟩ hlt
            have hc' := q3.cell
            have c9 : W.cell? ⟨Bx, 1, none⟩ = some (.int .i64 x.val.to) := by rw [cell_of_row W Bx 1 _ _ _ q8]; rfl
            have hle := (Mk.adds_le (pre.map (·.val)) m' (fun y hy => by
              obtain ⟨z, _, rfl⟩ := List.mem_map.1 hy
              rw [hlenS]; exact hlto z.val z.property)).1
            have hl1 := hle.len
            have hl2 := hle.room
            have hx1 := hlto x.val x.property
            have H6 := mark_in q1 x.val.to (by omega) (by omega)
            clear q8
            gi_wp2_with (first
              | (refine ⟨trivial, ?_⟩; gi_at_call 73; refine (CallsIn.inRound l (callsIn_wide.2 H6)).mono ?_; clear H6; rintro e W2 ⟨rfl, vt2, hm2, hS2⟩))
            refine ⟨⟨hS2.size, fun k o' _ hk ho' => hS2.keeps q1 k o' hk ho'⟩, ?_, ⟨vt2, ?_, ?_⟩, q3.step q1 hS2, q4.trans (hS2.below q1), fun D hD => ⟨(q5 D hD).1, hS2.keeps q1 D _ (q5 D hD).2 rfl⟩, Nat.le_trans q6 hS2.size, Nat.le_trans q0 hS2.size⟩
            · intro k hk
              have hbl := hm.lt
              have hbb := hm.base
              rcases hk with hk | hk
              · have hk' := hP3 k hk
                refine hS2.block k (by omega) (by omega) (fun e => ?_) (fun e => ?_)
                · have := (hm.rs.lt k e.symm); omega
                · have := (q1.rt.lt k e.symm).1; omega
              · refine hS2.block k (by omega) (by omega) (fun e => ?_) (fun e => ?_)
                · have := (hm.rs.lt k e.symm); omega
                · have := q2 k e.symm; omega
            · rw [List.map_append, List.map_cons, List.map_nil, Mk.adds_snoc]; exact hm2
            · intro k e
              rcases hS2.ft k e with e | e
              · exact q2 k e
              · exact .inr (Nat.le_trans q0 e)
          case done =>
            rintro D mm W hD - ⟨⟨vt', q1, q2⟩, q3, q4, q5, q6, q0⟩ hK
            rw [show (links M o).attach.map (fun x => x.val) = links M o from List.attach_map_subtype_val (links M o)] at q1
            obtain ⟨hw2, hw3⟩ := hwalk.round ho hu (fun q hq e => h.srt.1.uniq hq ho e)
            have hc' := q3.cell
            have H7 := next_in q1
            gi_wp2_with (first
              | (refine ⟨trivial, ?_⟩; gi_at_call 74; refine (callsIn_wide.2 H7).mono ?_; clear H7; rintro e W3 ⟨a3, ok3, vt3, m3, rfl, hm3, hS3, hnx⟩))
            refine ⟨_, _, _, _, _, _, _, _, _, _, _, _, _, _, _, _, _, _, _, _, _, _, _, _, _, _, _, _, _, _, _, _, _, _, _, _, _, _, _, _, _, _, _, _, _, _, _, _, a3, ok3, _, m3, vt3, D :: Ds, rfl, hm3, hw2, hnx, q3.step q1 hS3, q4.trans (hS3.below q1), ?_, ?_, ?_⟩
            · intro E hE
              rcases List.mem_cons.1 hE with rfl | hE
              · exact ⟨by omega, hS3.keeps q1 _ _ hK rfl⟩
              · exact ⟨(q5 E hE).1, hS3.keeps q1 E _ (q5 E hE).2 rfl⟩
            · exact List.nodup_cons.2 ⟨fun hE => by have := hDl D hE; omega, hDn⟩
            · omega
    | cons v rest =>
      have hlR : pre.length < vs.length := by rw [hR]; simp
      have hvm : v ∈ vs := by rw [hR]; simp
      obtain ⟨b0, off, rfl, c0, c1⟩ := (hv.below hB) pre.length v (by rw [hR]; simp)
      have HR : Hid (vs = pre ++ v :: rest) := hR
      have hwk' := hwk.next hvm hu
      have H2 := fun w' (hB' : Below wr.heap.size wr w') => leads_in ((h.below hB).below hB') v.k v.n
      have e1 : (((pre ++ [v]).length : Nat) : Int) = pre.length + 1 := by simp
      have hbc := hbx.cell
      have hbl := hbx.lt
      have hfit := hwk.fit
      clear hR
      by_cases hL : Leads M v.k v.n
      · obtain ⟨q, hq⟩ : ∃ q : Nat, v.n = q := by obtain ⟨_, _, o, _, e, _⟩ := hL; exact ⟨o.at_, e.symm⟩
        have ed : decide (Leads M v.k v.n) = true := by simpa using hL
        rw [ed] at H2
        have hql : q < m.S.length := by
          obtain ⟨_, _, o, ho, e, _⟩ := hL
          have := hu o ho; have := hwk.len; omega
        have e3 : m.root M v = m.add q := by rw [Mk.root, if_pos hL, hq]; rfl
        rw [e3] at hwk'
        rw [hq] at H2 c1
        have HL : Hid _ := hL
        clear hL ed e3 hq
        gi_wp2_with (first
          | (refine ⟨trivial, ?_⟩; gi_at_call 72; refine (callsIn_wide.2 (H2 _ (below1 _ _))).mono ?_; clear H2; rintro e w2 ⟨rfl, hB2⟩; have hB3 : Below wr.heap.size wr w2 := (below1 _ _).trans (hB2.mono (by simp)); have c5 : w2.cell? ⟨wr.heap.size, 1, none⟩ = some (.int .i64 q) := (hB2.cell (p := ⟨wr.heap.size, 1, none⟩) (by simp)).trans (by rw [cell_of_row _ wr.heap.size 1 _ _ _ (heap_alloc_new wr _)]; rfl); have hb2 := hbx.below hB3; have hbc2 := hb2.cell; have hm2 := hm.below hB3; have H3 := mark_in hm2 q hql (by omega))
          | (refine ⟨trivial, ?_⟩; gi_at_call 73; refine (callsIn_wide.2 H3).mono ?_; clear H3; rintro e w3 ⟨rfl, vt3, hm3, hS3⟩))
        go_roundw
        case rel =>
          refine ⟨pre ++ [v], rest, _, _, by rw [e1], by have := HR.out; simpa using this, hm3, hwk', hb2.step hm2 hS3, ?_⟩
          exact hB.trans ((hB3.mono hB.size).trans (hS3.below hm2))
        case measure => simp [intOf]; omega
      · have ed : decide (Leads M v.k v.n) = false := by simpa using hL
        rw [ed] at H2
        have e3 : m.root M v = m := by rw [Mk.root, if_neg hL]
        rw [e3] at hwk'
        clear hL ed e3
        gi_wp2_with (first
          | (refine ⟨trivial, ?_⟩; gi_at_call 72; refine (callsIn_wide.2 (H2 _ (below1 _ _))).mono ?_; clear H2; rintro e w2 ⟨rfl, hB2⟩; have hB3 : Below wr.heap.size wr w2 := (below1 _ _).trans (hB2.mono (by simp)))
          )
        go_roundw
        case rel =>
          exact ⟨pre ++ [v], rest, _, _, by rw [e1], by have := HR.out; simpa using this, hm.below hB3, hwk', hbx.below hB3, hB.trans (hB3.mono hB.size)⟩
        case measure => simp [intOf]; omega

end Go.Proofs.YtkombdkhodjckaaGreat
