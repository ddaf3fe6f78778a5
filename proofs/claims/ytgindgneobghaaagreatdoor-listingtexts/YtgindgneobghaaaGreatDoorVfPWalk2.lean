/- The program's walk: what waits is put and taken. -/
import Derived.Test.YtgindgneobghaaaGreatDoorVfPDown
import Derived.Deep.RegionLaw
import Derived.Deep.AppendLies
namespace Go.Proofs.YtgindgneobghaaaGreatDoor
set_option linter.unusedVariables false
set_option linter.unusedSimpArgs false
open Go.RowKit

variable {w : World}

/-- A walk in memory: what was told, what waits. -/
structure Wk (W : World) (base bw gt ct : Nat) (told : List Int) (v : Value) (q : List Int) : Prop where
  tb : W.heap[bw]? = some (.cells #[.slice (some ⟨gt, 0, none⟩) told.length ct, v] 143 (0, 0))
  tr : NumRow base gt ct told W
  qr : W.ownsRow base 3 1 v q.length (q.map iv)
  ap : v.ownBlock ≠ some gt
  bs : base ≤ bw

theorem Wk.lt {W : World} {base bw gt ct : Nat} {told : List Int} {v : Value} {q : List Int} (h : Wk W base bw gt ct told v q) : bw < W.heap.size := (Array.getElem?_eq_some_iff.1 h.tb).1

theorem Wk.ne {W : World} {base bw gt ct : Nat} {told : List Int} {v : Value} {q : List Int} (h : Wk W base bw gt ct told v q) : bw ≠ gt := by
  intro e
  obtain ⟨cur, hc, _⟩ := h.tr.obj
  have := h.tb
  rw [e, hc] at this
  simp at this

theorem Wk.nv {W : World} {base bw gt ct : Nat} {told : List Int} {v : Value} {q : List Int} (h : Wk W base bw gt ct told v q) : v.ownBlock ≠ some bw := by
  intro e
  obtain ⟨cur, hc⟩ := row_obj h.qr e
  have := h.tb
  rw [hc] at this
  simp at this

theorem Wk.kept {W W' : World} {base bw gt ct : Nat} {told : List Int} {v : Value} {q : List Int} (h : Wk W base bw gt ct told v q) (hB : Below W.heap.size W W') : Wk W' base bw gt ct told v q :=
  ⟨(hB.block _ h.lt).trans h.tb, h.tr.kept (hB.block _ h.tr.lt.2), row_kept h.qr (fun k e => hB.block _ (h.qr.lt k e).2), h.ap, h.bs⟩

/-- What a walk's step leaves: all but the walk, what was told, what waits. -/
structure Fr (bw gt : Nat) (v v' : Value) (w w' : World) : Prop where
  os : w'.os = w.os
  tape : w'.tape = w.tape
  output : w'.output = w.output
  size : w.heap.size ≤ w'.heap.size
  block : ∀ k, k < w.heap.size → k ≠ bw → k ≠ gt → v.ownBlock ≠ some k → w'.heap[k]? = w.heap[k]?
  new : ∀ g, v'.ownBlock = some g → v.ownBlock = some g ∨ w.heap.size ≤ g

theorem Fr.trans {bw gt : Nat} {v v' v'' : Value} {a b c : World} (h : Fr bw gt v v' a b) (k : Fr bw gt v' v'' b c) : Fr bw gt v v'' a c := by
  refine ⟨k.os.trans h.os, k.tape.trans h.tape, k.output.trans h.output, Nat.le_trans h.size k.size, fun i hi h1 h2 h3 => ?_, fun g hg => ?_⟩
  · refine (k.block i (Nat.lt_of_lt_of_le hi h.size) h1 h2 (fun e => ?_)).trans (h.block i hi h1 h2 h3)
    rcases h.new i e with e | e
    · exact h3 e
    · omega
  · rcases k.new g hg with e | e
    · exact h.new g e
    · exact .inr (Nat.le_trans h.size e)

theorem Fr.of_below {bw gt : Nat} {v : Value} {a b : World} (h : Below a.heap.size a b) : Fr bw gt v v a b := ⟨h.os, h.tape, h.output, h.size, fun k hk _ _ _ => h.block k hk, fun g hg => .inl hg⟩

theorem Fr.of_but {bw gt g c n m : Nat} {a b : World} (h : But2 g g a b) : Fr bw gt (.slice (some ⟨g, 0, none⟩) n c) (.slice (some ⟨g, 0, none⟩) m c) a b :=
  ⟨h.os, h.tape, h.output, h.size, fun k hk _ _ h3 => h.block k hk (fun e => h3 (by rw [e]; rfl)) (fun e => h3 (by rw [e]; rfl)), fun x hx => .inl hx⟩

theorem Fr.below {bw gt base : Nat} {v v' : Value} {a b : World} (h : Fr bw gt v v' a b) (h1 : base ≤ bw) (h2 : base ≤ gt) (h3 : ∀ g, v.ownBlock = some g → base ≤ g) (h4 : base ≤ a.heap.size) : Below base a b :=
  ⟨h.os, h.tape, h.output, h.size, fun k hk => h.block k (by omega) (by omega) (by omega) (fun e => by have := h3 k e; omega)⟩

theorem push_end {base bw gt ct gg cap : Nat} {told : List Int} {v : Value} {q : List Int} {w1 : World} {o : Obj} {x : Int} (h : Wk w base bw gt ct told v q)
    (hown1 : w1.ownsRow base 3 1 (.slice (some ⟨gg, 0, none⟩) (q.length + 1) cap) (q.length + 1) (q.map iv ++ [.int .i64 x])) (hgrow : (w.alloc o).drew.grownBy w1 v.ownBlock) (hat : v.ownBlock = some gg ∨ gg = w.heap.size + 1) :
    Wk (w1.setCell ⟨bw, 1, none⟩ (.slice (some ⟨gg, 0, none⟩) (q.length + 1) cap)) base bw gt ct told (.slice (some ⟨gg, 0, none⟩) (q.length + 1) cap) (q ++ [x]) ∧ Fr bw gt v (.slice (some ⟨gg, 0, none⟩) (q.length + 1) cap) w (w1.setCell ⟨bw, 1, none⟩ (.slice (some ⟨gg, 0, none⟩) (q.length + 1) cap)) := by
  have hlt := h.lt
  have hgl := h.tr.lt.2
  have key : ∀ k, k < w.heap.size → v.ownBlock ≠ some k → w1.heap[k]? = w.heap[k]? := fun k hk hv => (hgrow.block _ (by simp; omega) (fun e => hv e.symm)).trans (Below.heap_alloc _ _ _ hk)
  have hsz : w.heap.size ≤ w1.heap.size := by have := hgrow.size; simp at this; omega
  have hgb : gg ≠ bw := by
    rcases hat with e | e
    · intro e2; exact h.nv (by rw [e, e2])
    · omega
  have hgt : gg ≠ gt := by
    rcases hat with e | e
    · intro e2; exact h.ap (by rw [e, e2])
    · omega
  refine ⟨⟨?_, ?_, ?_, ?_, h.bs⟩, ?_⟩
  · have := heap_setCell_same w1 bw 1 _ _ (.slice (some ⟨gg, 0, none⟩) (q.length + 1) cap) ((key bw hlt h.nv).trans h.tb)
    simpa using this
  · exact h.tr.kept ((heap_setCell_other w1 ⟨bw, 1, none⟩ gt _ (Ne.symm h.ne)).trans (key gt hgl h.ap))
  · have := row_kept (w' := w1.setCell ⟨bw, 1, none⟩ (.slice (some ⟨gg, 0, none⟩) (q.length + 1) cap)) hown1 (fun k e => by simp [Value.ownBlock] at e; subst e; exact heap_setCell_other w1 ⟨bw, 1, none⟩ gg _ hgb)
    simpa [iv] using this
  · simpa [Value.ownBlock] using hgt
  · refine ⟨hgrow.os, hgrow.tape, hgrow.output, by simpa [World.setCell] using hsz, fun k hk h1 h2 h3 => (heap_setCell_other w1 ⟨bw, 1, none⟩ k _ h1).trans (key k hk h3), fun g hg => ?_⟩
    simp [Value.ownBlock] at hg
    subst hg
    rcases hat with e | e
    · exact .inl e
    · exact .inr (by omega)

theorem assert_int (x : Int) (W : World) : Sem.run Tryz.prog (Instr.typeAssert (.iface 3 (.int .i64 x)) 20 3 false) W = .ok (.int .i64 x) W := by
  kernel_rfl

set_option maxRecDepth 20000 in
set_option maxHeartbeats 2000000 in
theorem ppush_in {base bw gt ct : Nat} {told : List Int} {v : Value} {q : List Int} (h : Wk w base bw gt ct told v q) (hl : q.length ≤ 1048576) (x : Int) :
    Calls Tryz.prog 132 #[.pointer (some ⟨bw, 1, none⟩), .iface 3 (.int .i64 x)] w fun e w' => e = .returned (.tuple #[]) ∧ ∃ g c, Wk w' base bw gt ct told (.slice (some ⟨g, 0, none⟩) (q.length + 1) c) (q ++ [x]) ∧ Fr bw gt v (.slice (some ⟨g, 0, none⟩) (q.length + 1) c) w w' := by
  obtain ⟨i1, hj0, hy0, hy1, hy2⟩ := info_parts infoInts
  obtain ⟨⟨c0, c1⟩, ⟨f0, f1⟩⟩ := cell_row2 h.tb
  have hnv := h.nv
  have hlt := h.lt
  have hbase : base ≤ w.heap.size := Nat.le_trans h.bs (Nat.le_of_lt hlt)
  have hro := h.qr
  have HH : Hid _ := h
  have HF1 : ((w.alloc (.cells #[.int .i64 x] 3)).drew).frozen? ⟨bw, 1, none⟩ = false := by
    rw [← f1]; exact World.frozen?_of_block (a := ⟨bw, 1, none⟩) (Below.heap_alloc _ _ bw hlt)
  have HC1 : ((w.alloc (.cells #[.int .i64 x] 3)).drew).cell? ⟨bw, 1, none⟩ = some v := by
    rw [← c1]; exact World.cell?_of_block (a := ⟨bw, 1, none⟩) (Below.heap_alloc _ _ bw hlt)
  have HN : ((w.alloc (.cells #[.int .i64 x] 3)).drew).heap[w.heap.size]? = some (.cells #[.int .i64 x] 3 (0, 0)) := heap_alloc_new w _
  have hta := assert_int x
  clear h
  go_enter Tryz.func132, Tryz.ntmps132
  go_wp2
  go_region_law
    ((refine step_append_lies _ (by rfl) _ _ _ (by rfl) base 3 i1 _ 1 8 Tryz.underlying141 hj0 hy0 hy1 hy2 rfl (by omega) v q.length (q.map iv) (by rfl) (hro.alloc _).drew
        ⟨w.heap.size, 0, none⟩ 1 1 [.int .i64 x] (by rfl) (by rfl) (World.news_of_block (cs := #[.int .i64 x]) (t := 3) (fr := (0, 0)) HN) (by simp [Value.oneCell'])
        (by omega) (by unfold maxLen; omega) (by omega) (by simp; omega) (w.heap.size + 1) (by simp) ?_; intro gg cap w1 hown1 hgrow hat hlt1; have G2 : w1.frozen? ⟨bw, 1, none⟩ = false := (hgrow.frozen_far _ (by simp; omega) hnv.symm).trans HF1; have G4 : w1.cell? ⟨bw, 1, none⟩ = some v := (hgrow.cell_far _ (by simp; omega) hnv.symm).trans HC1))
  all_goals
    go_end0
    exact ⟨rfl, gg, cap, push_end HH.out hown1 hgrow hat⟩

theorem Wk.qh {W : World} {base bw gt ct g c : Nat} {told q : List Int} {n : Nat} (h : Wk W base bw gt ct told (.slice (some ⟨g, 0, none⟩) n c) q) (hn : n = q.length) : Qh base bw g c q W := by
  subst hn
  refine ⟨(cell_row2 h.tb).1.2, h.qr, h.lt, fun e => h.nv (by rw [e]; rfl)⟩

theorem Wk.of_qh {W W' : World} {base bw gt ct g c : Nat} {told q m : List Int} {n : Nat} (h : Wk W base bw gt ct told (.slice (some ⟨g, 0, none⟩) n c) q) (hn : n = m.length) (hm : Qh base bw g c m W') (hb : But2 g g W W') : Wk W' base bw gt ct told (.slice (some ⟨g, 0, none⟩) m.length c) m := by
  subst hn
  have hgb : bw ≠ g := fun e => h.nv (by rw [e]; rfl)
  have hgt : gt ≠ g := fun e => h.ap (by rw [e]; rfl)
  exact ⟨(hb.block bw h.lt hgb hgb).trans h.tb, h.tr.kept (hb.block gt h.tr.lt.2 hgt hgt), hm.row, h.ap, h.bs⟩

/-- What Push comes to. -/
def PushR (base bw gt ct : Nat) (told : List Int) (v : Value) (q : List Int) (x : Int) (w w' : World) : Prop :=
  ∃ g c m, m.Perm (q ++ [x]) ∧ HpN m m.length ∧ Wk w' base bw gt ct told (.slice (some ⟨g, 0, none⟩) m.length c) m ∧ Fr bw gt v (.slice (some ⟨g, 0, none⟩) m.length c) w w'

set_option maxRecDepth 20000 in
set_option maxHeartbeats 2000000 in
theorem hpush_in {base bw gt ct : Nat} {told : List Int} {v : Value} {q : List Int} (h : Wk w base bw gt ct told v q) (hl : q.length < 1048576) (hp : HpN q q.length) (x : Int) :
    Calls Tryz.prog 92 #[.iface 161 (.pointer (some ⟨bw, 1, none⟩)), .iface 3 (.int .i64 x)] w fun e w' => e = .returned (.tuple #[]) ∧ PushR base bw gt ct told v q x w w' := by
  have hm := m_push w ⟨bw, 1, none⟩
  have H1 := ppush_in h (by omega) x
  have HL := fun (W : World) (g c : Nat) (h1 : Wk W base bw gt ct told (.slice (some ⟨g, 0, none⟩) (q.length + 1) c) (q ++ [x])) => m_len (cell_row2 h1.tb).1.2
  have H2 := fun (W : World) (g c : Nat) => plen_in (w := W) (some ⟨g, 0, none⟩) (q.length + 1) c
  have H3 := fun (W : World) (g c : Nat) (h1 : Wk W base bw gt ct told (.slice (some ⟨g, 0, none⟩) (q.length + 1) c) (q ++ [x])) => up_in (h1.qh (by simp)) (j := q.length) (by simp) (by simp; omega) (upI_push hp x)
  clear h hp
  go_enter Tryz.func92, Tryz.ntmps92
  go_wp2_with (first
    | (go_at_call 132; (with_reducible refine H1.mono ?_); clear H1; rintro e w1 ⟨rfl, g, c, hw1, hf1⟩; have hm1 := HL _ _ _ hw1)
    | (go_at_call 128; (with_reducible refine (H2 _ _ _).mono ?_); clear H2; rintro e w2 ⟨rfl, rfl⟩)
    | (go_at_call 100; (with_reducible refine (H3 _ _ _ hw1).mono ?_); clear H3; rintro e w3 ⟨rfl, m, hmp, hmh, hmq, hb3⟩))
  go_end0
  have hlen : q.length + 1 = m.length := by rw [hmp.length_eq]; simp
  have hfin := hw1.of_qh hlen hmq hb3
  exact ⟨rfl, g, c, m, hmp, hmh, hfin, hf1.trans (Fr.of_but hb3)⟩

end Go.Proofs.YtgindgneobghaaaGreatDoor

namespace Go.Proofs.YtgindgneobghaaaGreatDoor
set_option linter.unusedVariables false
set_option linter.unusedSimpArgs false
open Go.RowKit

variable {w : World}

theorem NumRow.take {base g c : Nat} {l : List Int} (h : NumRow base g c l w) {n : Nat} (hn : n ≤ l.length) : w.ownsRow base 3 1 (.slice (some ⟨g, 0, none⟩) n c) n ((l.take n).map iv) := by
  rcases h.2 with ⟨e, _⟩ | ⟨g', cap, cur, e, hb, hg, h1, hm, h2, h3⟩
  · simp at e
  · simp at e
    obtain ⟨rfl, rfl⟩ := e
    simp at h2 h3
    refine ⟨by simp [hn], .inr ⟨g, c, cur, rfl, hb, hg, by omega, hm, by simpa using h2, ?_⟩⟩
    have : cur.toList.take n = (cur.toList.take l.length).take n := by rw [List.take_take, Nat.min_eq_left hn]
    rw [Nat.mul_one, this, h3, List.map_take]

set_option maxRecDepth 20000 in
set_option maxHeartbeats 2000000 in
theorem ppop_in {base bw gt ct g c n : Nat} {told m : List Int} (h : Wk w base bw gt ct told (.slice (some ⟨g, 0, none⟩) m.length c) m) (hl : m.length = n + 1) (hl2 : m.length ≤ 1048576) :
    Calls Tryz.prog 131 #[.pointer (some ⟨bw, 1, none⟩)] w fun e w' => e = .returned (.iface 3 (.int .i64 (m.getD n 0))) ∧ Wk w' base bw gt ct told (.slice (some ⟨g, 0, none⟩) (m.take n).length c) (m.take n) ∧ Fr bw gt (.slice (some ⟨g, 0, none⟩) m.length c) (.slice (some ⟨g, 0, none⟩) (m.take n).length c) w w' := by
  obtain ⟨⟨c0, c1⟩, ⟨f0, f1⟩⟩ := cell_row2 h.tb
  have r0 := (h.qh rfl).row.at (getD_int (l := m) (i := n) (by omega))
  have HH : Hid _ := h
  have hcap : m.length ≤ c := by
    obtain ⟨p, c', e, h1, _⟩ := row_form h.qr
    simp at e
    omega
  have htl : (m.take n).length = n := by simp; omega
  have HT : Hid _ := (h.qh rfl).row.take (n := n) (by omega)
  rw [htl]
  have HTL : Hid _ := htl
  generalize m.getD n 0 = x at r0 ⊢
  have HML : Hid _ := hl
  rw [hl] at c1 ⊢
  have hn' : (n : Int) < (n : Int) + 1 := by omega
  have hn20 : n < 1048576 := by omega
  have hnc : n + 1 ≤ c := by omega
  clear h htl hl hl2 hcap
  go_enter Tryz.func131, Tryz.ntmps131
  go_wp2
  go_ret
  have h := HH.out
  have hgb : g ≠ bw := fun e => h.nv (by rw [e]; rfl)
  refine ⟨rfl, ⟨?_, h.tr.kept (heap_setCell_other w ⟨bw, 1, none⟩ gt _ (Ne.symm h.ne)), ?_, h.ap, h.bs⟩, ?_⟩
  · have := heap_setCell_same w bw 1 _ _ (.slice (some ⟨g, 0, none⟩) n c) h.tb
    simpa using this
  · rw [HTL.out]
    exact row_kept HT.out (fun k e => by simp [Value.ownBlock] at e; subst e; exact heap_setCell_other w ⟨bw, 1, none⟩ g _ hgb)
  · exact ⟨rfl, rfl, rfl, by simp [World.setCell], fun k hk h1 h2 h3 => heap_setCell_other w ⟨bw, 1, none⟩ k _ h1, fun x hx => .inl hx⟩

/-- What Pop comes to. -/
def PopR (base bw gt ct g c : Nat) (told m : List Int) (w w' : World) : Prop :=
  ∃ r, m.Perm (m.getD 0 0 :: r) ∧ HpN r r.length ∧ Wk w' base bw gt ct told (.slice (some ⟨g, 0, none⟩) r.length c) r ∧ Fr bw gt (.slice (some ⟨g, 0, none⟩) m.length c) (.slice (some ⟨g, 0, none⟩) r.length c) w w'

set_option maxRecDepth 20000 in
set_option maxHeartbeats 2000000 in
theorem hpop_in {base bw gt ct g c n : Nat} {told m : List Int} (h : Wk w base bw gt ct told (.slice (some ⟨g, 0, none⟩) m.length c) m) (hl : m.length = n + 1) (hl2 : m.length ≤ 1048576) (hp : HpN m m.length) :
    Calls Tryz.prog 93 #[.iface 161 (.pointer (some ⟨bw, 1, none⟩))] w fun e w' => e = .returned (.iface 3 (.int .i64 (m.getD 0 0))) ∧ PopR base bw gt ct g c told m w w' := by
  have hc := (h.qh rfl).cell
  have hml := m_len hc
  have hms := m_swap hc
  have H1 := plen_in (w := w) (some ⟨g, 0, none⟩) m.length c
  have H2 : Calls Tryz.prog 130 #[.slice (some ⟨g, 0, none⟩) m.length c, .int .i64 (0 : Int), .int .i64 n] w fun e w' => e = .returned (.tuple #[]) ∧ NumRow base g c (swp m 0 n) w' ∧ But2 g g w w' := pswap_in (h.qh rfl).row (i := 0) (j := n) (by omega) (by omega)
  have hdn := downI_pop hp hl
  have hsl := swp_len m 0 n
  have H3 := fun (W : World) (hr : NumRow base g c (swp m 0 n) W) (hb : But2 g g w W) => down_in ((h.qh rfl).swap hr hb) (n := n) (by omega) (by omega) hdn
  have hm4 := fun (W : World) => m_pop W ⟨bw, 1, none⟩
  have HH : Hid _ := h
  have HS : Hid _ := hsl
  have HL : Hid _ := hl
  have hn20 : n < 1048576 := by omega
  rw [hl] at H1 H2 hml hms
  clear h hdn hl hl2 hsl hc hp
  go_enter Tryz.func93, Tryz.ntmps93
  go_wp2_with (first
    | (go_at_call 128; (with_reducible refine H1.mono ?_); clear H1; rintro e w0 ⟨rfl, rfl⟩)
    | (go_at_call 130; (with_reducible refine H2.mono ?_); clear H2; rintro e w1 ⟨rfl, hr1, hb1⟩)
    | (go_at_call 101; (with_reducible refine (H3 _ hr1 hb1).mono ?_); clear H3; rintro e w2 ⟨b2, rfl, m2, hp2, hh2, hk2, hq2, hb2⟩; have hlm : m2.length = n + 1 := (by rw [hp2.length_eq, HS.out, HL.out]); have hwk := HH.out.of_qh (by rw [hlm, HL.out]) hq2 (hb1.trans hb2); have H4 := ppop_in hwk hlm (by omega); have HW : Hid _ := hwk; have HM : Hid _ := hlm; clear hwk hlm)
    | (go_at_call 131; (with_reducible refine H4.mono ?_); clear H4; rintro e w3 ⟨rfl, hw3, hf3⟩))
  go_ret
  have e1 : m2.getD n 0 = m.getD 0 0 := by
    rw [hk2 n (Nat.le_refl _), swp_at (by have := HL.out; omega) (by have := HL.out; omega), if_pos rfl]
  refine ⟨by show Ending.returned (.iface 3 (.int .i64 (m2[n]?.getD 0))) = _; rw [← List.getD_eq_getElem?_getD, e1], m2.take n, pop_perm HL.out hp2 (hk2 n (Nat.le_refl _)), hpN_take hh2 (by have := HM.out; omega), hw3, ?_⟩
  exact (Fr.of_but (hb1.trans hb2)).trans hf3

theorem nodup_le : ∀ {n : Nat} {q : List Int}, q.Nodup → (∀ x ∈ q, 0 ≤ x ∧ x < n) → q.length ≤ n
  | 0, q, _, h => by
    cases q with
    | nil => simp
    | cons x r => have := h x (by simp); omega
  | n + 1, q, hn, h => by
    have h1 := nodup_le (n := n) (q := q.erase n) (hn.erase _) (fun x hx => by
      have := (hn.mem_erase_iff).1 hx
      have h2 := h x this.2
      have h3 : x ≠ (n : Int) := this.1
      omega)
    by_cases hm : (n : Int) ∈ q
    · rw [List.length_erase_of_mem hm] at h1; omega
    · rw [List.erase_of_not_mem hm] at h1; omega

theorem Qi.len {n : Nat} {told : List Int} {taken : List Bool} {q : List Int} (h : Qi n told taken q) : q.length ≤ n := nodup_le h.nod h.nat

/-- What tell comes to. -/
def TellP (base bw gt ct n : Nat) (told : List Int) (taken : List Bool) (v : Value) (k : Nat) (d : Int) (b : Bool) (w w' : World) : Prop :=
  ∃ told' v' q', Wk w' base bw gt ct told' v' q' ∧ Fr bw gt v v' w w' ∧ Qi n told' taken q' ∧ (∀ k, -1 ≤ told'.getD k (-1)) ∧ ((b = true ∧ tellP told k d = some told') ∨ (b = false ∧ tellP told k d = none))

theorem Wk.tset {base bw gt ct : Nat} {told : List Int} {v : Value} {q : List Int} (h : Wk w base bw gt ct told v q) {k : Nat} (hk : k < told.length) (d : Int) : Wk (w.setCell ⟨gt, k, none⟩ (.int .i64 d)) base bw gt ct (told.set k d) v q := by
  refine ⟨?_, h.tr.set hk d, row_kept h.qr (fun x e => heap_setCell_other w ⟨gt, k, none⟩ x _ (fun e2 => h.ap (by have e3 : x = gt := e2; rw [← e3]; exact e))), h.ap, h.bs⟩
  rw [heap_setCell_other w ⟨gt, k, none⟩ bw _ h.ne, List.length_set]
  exact h.tb

set_option maxRecDepth 20000 in
set_option maxHeartbeats 2000000 in
theorem ptell_in {base bw gt ct n : Nat} {told : List Int} {taken : List Bool} {v : Value} {q : List Int} (h : Wk w base bw gt ct told v q) (hq : Qi n told taken q) (hn : n ≤ 16384) (hm : ∀ k, -1 ≤ told.getD k (-1)) (k : Nat) (hk : k < n) (d : Int) (hd : 0 ≤ d) :
    Calls Tryz.prog 81 #[.pointer (some ⟨bw, 0, none⟩), .int .i64 k, .int .i64 d] w fun e w' => ∃ b, e = .returned (.bool b) ∧ TellP base bw gt ct n told taken v k d b w w' := by
  have hkl : k < told.length := by rw [hq.tl]; exact hk
  obtain ⟨x, hx⟩ : ∃ x, told[k]? = some x := ⟨told[k], by simp⟩
  have hxD : told.getD k (-1) = x := by rw [List.getD_eq_getElem?_getD, hx]; rfl
  have hx1 := hm k
  rw [hxD] at hx1
  have hk' : (k : Int) < (told.length : Int) := by omega
  obtain ⟨⟨c0, c1⟩, -⟩ := cell_row2 h.tb
  have r0 := h.tr.at hx
  have fr := h.tr.frozen k
  have HH : Hid _ := And.intro h (And.intro hq hm)
  by_cases h0 : x = -1
  · subst h0
    have hql := hq.len
    have h1 := h.tset hkl d
    have H1 := hpush_in h1 (by omega) hq.hp (k : Int)
    have TP : Hid (tellP told k d = some (told.set k d)) := by
      show tellP told k d = _
      unfold tellP; rw [hxD, if_neg (by omega)]
    have HX : Hid _ := hxD
    have HK : Hid (k < told.length) := hkl
    clear h hq hm hxD hx h1 hql hkl
    go_enter Tryz.func81, Tryz.ntmps81
    go_wp2_with (first
      | (go_at_call 92; (with_reducible refine H1.mono ?_); clear H1; rintro e w2 ⟨rfl, g, c, m, hmp, hmh, hw2, hf2⟩; obtain ⟨⟨e0, e1⟩, -⟩ := cell_row2 hw2.tb; have er := hw2.tr.at (j := k) (x := d) (by rw [List.getElem?_set]; simp [HK.out]); have e2 : (k : Int) < ((told.set k d).length : Int) := (by rw [List.length_set]; exact hk'); rw [List.length_set] at e0 e2))
    go_ret
    obtain ⟨h, hq, hm⟩ := HH.out
    refine ⟨_, rfl, told.set k d, _, m, hw2, ?_, hq.push hk hd (by rw [HX.out]; omega) hmp hmh, fun j => ?_, .inl ⟨by simp, TP.out⟩⟩
    · have hf0 : Fr bw gt v v w (w.setCell ⟨gt, k, none⟩ (.int .i64 d)) := ⟨rfl, rfl, rfl, by simp [World.setCell], fun j hj j1 j2 j3 => heap_setCell_other w ⟨gt, k, none⟩ j _ j2, fun g hg => .inl hg⟩
      exact hf0.trans hf2
    · rw [getD_set_if' _ _ _ _ HK.out]
      split
      · omega
      · exact hm j
  · have h0' : (x == -1) = false := by simpa using h0
    have TP : Hid ((decide (x = d) = true ∧ tellP told k d = some told) ∨ (decide (x = d) = false ∧ tellP told k d = none)) := by
      show _ ∨ _
      unfold tellP
      rw [hxD]
      by_cases e : x = d
      · refine .inl ⟨by simpa using e, ?_⟩
        rw [if_neg (by omega), hq.same hk (by rw [hxD]; exact e)]
      · refine .inr ⟨by simpa using e, ?_⟩
        rw [if_pos ⟨by omega, e⟩]
    clear h hq hm hxD hx hkl
    go_enter Tryz.func81, Tryz.ntmps81
    go_wp2
    go_ret
    obtain ⟨h, hq, hm⟩ := HH.out
    exact ⟨_, rfl, told, v, q, h, Fr.of_below (Below.refl _ _), hq, hm, by have := TP.out; simpa using this⟩

/-- What take comes to. -/
def TakeP (base bw gt ct n g c : Nat) (told : List Int) (taken : List Bool) (q : List Int) (pc : Nat) (w w' : World) : Prop :=
  pc < n ∧ taken[pc]? = some false ∧ 0 ≤ told.getD pc (-1) ∧ (∀ k, k < pc → ¬ Opn told taken k) ∧ ∃ r, Wk w' base bw gt ct told (.slice (some ⟨g, 0, none⟩) r.length c) r ∧ Fr bw gt (.slice (some ⟨g, 0, none⟩) q.length c) (.slice (some ⟨g, 0, none⟩) r.length c) w w' ∧ Qi n told (taken.set pc true) r

set_option maxRecDepth 20000 in
set_option maxHeartbeats 2000000 in
theorem ptake_in {base bw gt ct n g c : Nat} {told : List Int} {taken : List Bool} {q : List Int} (h : Wk w base bw gt ct told (.slice (some ⟨g, 0, none⟩) q.length c) q) (hq : Qi n told taken q) (hn : n ≤ 16384) (h0 : 0 < q.length) :
    Calls Tryz.prog 82 #[.pointer (some ⟨bw, 0, none⟩)] w fun e w' => ∃ pc : Nat, e = .returned (.int .i64 pc) ∧ TakeP base bw gt ct n g c told taken q pc w w' := by
  have hql := hq.len
  have H1 := hpop_in h (n := q.length - 1) (by omega) (by omega) hq.hp
  have hta := assert_int (q.getD 0 0)
  generalize hx : q.getD 0 0 = x at H1 hta
  have HX : Hid _ := hx
  have HQ : Hid _ := hq
  clear hq h hx hql
  go_enter Tryz.func82, Tryz.ntmps82
  go_wp2_with (first
    | (go_at_call 93; (with_reducible refine H1.mono ?_); clear H1; rintro e w1 ⟨rfl, r, hr, hh, hw1, hf1⟩))
  go_ret
  obtain ⟨pc, e, p1, p2, p3, p4, p5⟩ := HQ.out.pop h0 hr hh
  refine ⟨pc, ?_, p1, p2, p3, p4, r, hw1, hf1, p5⟩
  have : x = (pc : Int) := by rw [← HX.out]; exact e
  subst this
  rfl

end Go.Proofs.YtgindgneobghaaaGreatDoor
