/- The program's walk: what waits is put and taken. -/
import Derived.Test.YtcpnjfoblacnhaaGreatDoorVfPDown
import Derived.Deep.RegionLaw
import Derived.Deep.AppendLies
namespace Go.Proofs.YtcpnjfoblacnhaaGreatDoor
set_option linter.unusedVariables false
set_option linter.unusedSimpArgs false
open Go.RowKit

variable {w : World}

/-- A walk in memory: what was told, what waits. -/
structure Wk (W : World) (base bw gt ct : Nat) (told : List Int) (v : Value) (q : List Int) : Prop where
  tb : W.heap[bw]? = some (.cells #[.slice (some ⟨gt, 0, none⟩) told.length ct, v] 84 (0, 0))
  tr : NumRow base gt ct told W
  qr : W.ownsRow base 3 1 v q.length (q.map iv)
  ap : v.ownBlock ≠ some gt
  bs : base ≤ bw

theorem Wk.lt {W : World} {base bw gt ct : Nat} {told : List Int} {v : Value} {q : List Int} (h : Wk W base bw gt ct told v q) : bw < W.heap.size := (Array.getElem?_eq_some_iff.1 h.tb).1

theorem Wk.ne {W : World} {base bw gt ct : Nat} {told : List Int} {v : Value} {q : List Int} (h : Wk W base bw gt ct told v q) : bw ≠ gt := by
  intro e
  obtain ⟨cur, hc, _⟩ := h.tr.obj
  have := h.tb
  rw [e, hc] at this
  simp at this

theorem Wk.nv {W : World} {base bw gt ct : Nat} {told : List Int} {v : Value} {q : List Int} (h : Wk W base bw gt ct told v q) : v.ownBlock ≠ some bw := by
  intro e
  obtain ⟨cur, hc⟩ := row_obj h.qr e
  have := h.tb
  rw [hc] at this
  simp at this

theorem Wk.kept {W W' : World} {base bw gt ct : Nat} {told : List Int} {v : Value} {q : List Int} (h : Wk W base bw gt ct told v q) (hB : Below W.heap.size W W') : Wk W' base bw gt ct told v q :=
  ⟨(hB.block _ h.lt).trans h.tb, h.tr.kept (hB.block _ h.tr.lt.2), row_kept h.qr (fun k e => hB.block _ (h.qr.lt k e).2), h.ap, h.bs⟩

/-- What a walk's step leaves: all but the walk, what was told, what waits. -/
structure Fr (bw gt : Nat) (v v' : Value) (w w' : World) : Prop where
  os : w'.os = w.os
  tape : w'.tape = w.tape
  output : w'.output = w.output
  size : w.heap.size ≤ w'.heap.size
  block : ∀ k, k < w.heap.size → k ≠ bw → k ≠ gt → v.ownBlock ≠ some k → w'.heap[k]? = w.heap[k]?
  new : ∀ g, v'.ownBlock = some g → v.ownBlock = some g ∨ w.heap.size ≤ g

theorem Fr.trans {bw gt : Nat} {v v' v'' : Value} {a b c : World} (h : Fr bw gt v v' a b) (k : Fr bw gt v' v'' b c) : Fr bw gt v v'' a c := by
  refine ⟨k.os.trans h.os, k.tape.trans h.tape, k.output.trans h.output, Nat.le_trans h.size k.size, fun i hi h1 h2 h3 => ?_, fun g hg => ?_⟩
  · refine (k.block i (Nat.lt_of_lt_of_le hi h.size) h1 h2 (fun e => ?_)).trans (h.block i hi h1 h2 h3)
    rcases h.new i e with e | e
    · exact h3 e
    · omega
  · rcases k.new g hg with e | e
    · exact h.new g e
    · exact .inr (Nat.le_trans h.size e)

theorem Fr.of_below {bw gt : Nat} {v : Value} {a b : World} (h : Below a.heap.size a b) : Fr bw gt v v a b := ⟨h.os, h.tape, h.output, h.size, fun k hk _ _ _ => h.block k hk, fun g hg => .inl hg⟩

theorem Fr.of_but {bw gt g c n m : Nat} {a b : World} (h : But2 g g a b) : Fr bw gt (.slice (some ⟨g, 0, none⟩) n c) (.slice (some ⟨g, 0, none⟩) m c) a b :=
  ⟨h.os, h.tape, h.output, h.size, fun k hk _ _ h3 => h.block k hk (fun e => h3 (by rw [e]; rfl)) (fun e => h3 (by rw [e]; rfl)), fun x hx => .inl hx⟩

theorem Fr.below {bw gt base : Nat} {v v' : Value} {a b : World} (h : Fr bw gt v v' a b) (h1 : base ≤ bw) (h2 : base ≤ gt) (h3 : ∀ g, v.ownBlock = some g → base ≤ g) (h4 : base ≤ a.heap.size) : Below base a b :=
  ⟨h.os, h.tape, h.output, h.size, fun k hk => h.block k (by omega) (by omega) (by omega) (fun e => by have := h3 k e; omega)⟩

theorem push_end {base bw gt ct gg cap : Nat} {told : List Int} {v : Value} {q : List Int} {w1 : World} {o : Obj} {x : Int} (h : Wk w base bw gt ct told v q)
    (hown1 : w1.ownsRow base 3 1 (.slice (some ⟨gg, 0, none⟩) (q.length + 1) cap) (q.length + 1) (q.map iv ++ [.int .i64 x])) (hgrow : (w.alloc o).drew.grownBy w1 v.ownBlock) (hat : v.ownBlock = some gg ∨ gg = w.heap.size + 1) :
    Wk (w1.setCell ⟨bw, 1, none⟩ (.slice (some ⟨gg, 0, none⟩) (q.length + 1) cap)) base bw gt ct told (.slice (some ⟨gg, 0, none⟩) (q.length + 1) cap) (q ++ [x]) ∧ Fr bw gt v (.slice (some ⟨gg, 0, none⟩) (q.length + 1) cap) w (w1.setCell ⟨bw, 1, none⟩ (.slice (some ⟨gg, 0, none⟩) (q.length + 1) cap)) := by
  have hlt := h.lt
  have hgl := h.tr.lt.2
  have key : ∀ k, k < w.heap.size → v.ownBlock ≠ some k → w1.heap[k]? = w.heap[k]? := fun k hk hv => (hgrow.block _ (by simp; omega) (fun e => hv e.symm)).trans (Below.heap_alloc _ _ _ hk)
  have hsz : w.heap.size ≤ w1.heap.size := by have := hgrow.size; simp at this; omega
  have hgb : gg ≠ bw := by
    rcases hat with e | e
    · intro e2; exact h.nv (by rw [e, e2])
    · omega
  have hgt : gg ≠ gt := by
    rcases hat with e | e
    · intro e2; exact h.ap (by rw [e, e2])
    · omega
  refine ⟨⟨?_, ?_, ?_, ?_, h.bs⟩, ?_⟩
  · have := heap_setCell_same w1 bw 1 _ _ (.slice (some ⟨gg, 0, none⟩) (q.length + 1) cap) ((key bw hlt h.nv).trans h.tb)
    simpa using this
  · exact h.tr.kept ((heap_setCell_other w1 ⟨bw, 1, none⟩ gt _ (Ne.symm h.ne)).trans (key gt hgl h.ap))
  · have := row_kept (w' := w1.setCell ⟨bw, 1, none⟩ (.slice (some ⟨gg, 0, none⟩) (q.length + 1) cap)) hown1 (fun k e => by simp [Value.ownBlock] at e; subst e; exact heap_setCell_other w1 ⟨bw, 1, none⟩ gg _ hgb)
    simpa [iv] using this
  · simpa [Value.ownBlock] using hgt
  · refine ⟨hgrow.os, hgrow.tape, hgrow.output, by simpa [World.setCell] using hsz, fun k hk h1 h2 h3 => (heap_setCell_other w1 ⟨bw, 1, none⟩ k _ h1).trans (key k hk h3), fun g hg => ?_⟩
    simp [Value.ownBlock] at hg
    subst hg
    rcases hat with e | e
    · exact .inl e
    · exact .inr (by omega)

theorem assert_int (x : Int) (W : World) : Sem.run Tryz.prog (Instr.typeAssert (.iface 3 (.int .i64 x)) 20 3 false) W = .ok (.int .i64 x) W := by
  kernel_rfl

set_option maxRecDepth 20000 in
set_option maxHeartbeats 2000000 in
theorem ppush_in {base bw gt ct : Nat} {told : List Int} {v : Value} {q : List Int} (h : Wk w base bw gt ct told v q) (hl : q.length ≤ 1048576) (x : Int) :
    Calls Tryz.prog 215 #[.pointer (some ⟨bw, 1, none⟩), .iface 3 (.int .i64 x)] w fun e w' => e = .returned (.tuple #[]) ∧ ∃ g c, Wk w' base bw gt ct told (.slice (some ⟨g, 0, none⟩) (q.length + 1) c) (q ++ [x]) ∧ Fr bw gt v (.slice (some ⟨g, 0, none⟩) (q.length + 1) c) w w' := by
  obtain ⟨i1, hj0, hy0, hy1, hy2⟩ := info_parts infoInts
  obtain ⟨⟨c0, c1⟩, ⟨f0, f1⟩⟩ := cell_row2 h.tb
  have hnv := h.nv
  have hlt := h.lt
  have hbase : base ≤ w.heap.size := Nat.le_trans h.bs (Nat.le_of_lt hlt)
  have hro := h.qr
  have HH : Hid _ := h
  have HF1 : ((w.alloc (.cells #[.int .i64 x] 3)).drew).frozen? ⟨bw, 1, none⟩ = false := by
    rw [← f1]; exact World.frozen?_of_block (a := ⟨bw, 1, none⟩) (Below.heap_alloc _ _ bw hlt)
  have HC1 : ((w.alloc (.cells #[.int .i64 x] 3)).drew).cell? ⟨bw, 1, none⟩ = some v := by
    rw [← c1]; exact World.cell?_of_block (a := ⟨bw, 1, none⟩) (Below.heap_alloc _ _ bw hlt)
  have HN : ((w.alloc (.cells #[.int .i64 x] 3)).drew).heap[w.heap.size]? = some (.cells #[.int .i64 x] 3 (0, 0)) := heap_alloc_new w _
  have hta := assert_int x
  clear h
  go_enter Tryz.func215, Tryz.ntmps215
  go_wp2
  go_region_law
    ((refine step_append_lies _ (by rfl) _ _ _ (by rfl) base 3 i1 _ 1 8 Tryz.underlying82 hj0 hy0 hy1 hy2 rfl (by omega) v q.length (q.map iv) (by rfl) (hro.alloc _).drew
        ⟨w.heap.size, 0, none⟩ 1 1 [.int .i64 x] (by rfl) (by rfl) (World.news_of_block (cs := #[.int .i64 x]) (t := 3) (fr := (0, 0)) HN) (by simp [Value.oneCell'])
        (by omega) (by unfold maxLen; omega) (by omega) (by simp; omega) (w.heap.size + 1) (by simp) ?_; intro gg cap w1 hown1 hgrow hat hlt1; have G2 : w1.frozen? ⟨bw, 1, none⟩ = false := (hgrow.frozen_far _ (by simp; omega) hnv.symm).trans HF1; have G4 : w1.cell? ⟨bw, 1, none⟩ = some v := (hgrow.cell_far _ (by simp; omega) hnv.symm).trans HC1))
  all_goals
    go_end0
    exact ⟨rfl, gg, cap, push_end HH.out hown1 hgrow hat⟩

theorem Wk.qh {W : World} {base bw gt ct g c : Nat} {told q : List Int} {n : Nat} (h : Wk W base bw gt ct told (.slice (some ⟨g, 0, none⟩) n c) q) (hn : n = q.length) : Qh base bw g c q W := by
  subst hn
  refine ⟨(cell_row2 h.tb).1.2, h.qr, h.lt, fun e => h.nv (by rw [e]; rfl)⟩

theorem Wk.of_qh {W W' : World} {base bw gt ct g c : Nat} {told q m : List Int} {n : Nat} (h : Wk W base bw gt ct told (.slice (some ⟨g, 0, none⟩) n c) q) (hn : n = m.length) (hm : Qh base bw g c m W') (hb : But2 g g W W') : Wk W' base bw gt ct told (.slice (some ⟨g, 0, none⟩) m.length c) m := by
  subst hn
  have hgb : bw ≠ g := fun e => h.nv (by rw [e]; rfl)
  have hgt : gt ≠ g := fun e => h.ap (by rw [e]; rfl)
  exact ⟨(hb.block bw h.lt hgb hgb).trans h.tb, h.tr.kept (hb.block gt h.tr.lt.2 hgt hgt), hm.row, h.ap, h.bs⟩

/-- What Push comes to. -/
def PushR (base bw gt ct : Nat) (told : List Int) (v : Value) (q : List Int) (x : Int) (w w' : World) : Prop :=
  ∃ g c m, m.Perm (q ++ [x]) ∧ HpN m m.length ∧ Wk w' base bw gt ct told (.slice (some ⟨g, 0, none⟩) m.length c) m ∧ Fr bw gt v (.slice (some ⟨g, 0, none⟩) m.length c) w w'

set_option maxRecDepth 20000 in
set_option maxHeartbeats 2000000 in
theorem hpush_in {base bw gt ct : Nat} {told : List Int} {v : Value} {q : List Int} (h : Wk w base bw gt ct told v q) (hl : q.length < 1048576) (hp : HpN q q.length) (x : Int) :
    Calls Tryz.prog 149 #[.iface 251 (.pointer (some ⟨bw, 1, none⟩)), .iface 3 (.int .i64 x)] w fun e w' => e = .returned (.tuple #[]) ∧ PushR base bw gt ct told v q x w w' := by
  have hm := m_push w ⟨bw, 1, none⟩
  have H1 := ppush_in h (by omega) x
  have HL := fun (W : World) (g c : Nat) (h1 : Wk W base bw gt ct told (.slice (some ⟨g, 0, none⟩) (q.length + 1) c) (q ++ [x])) => m_len (cell_row2 h1.tb).1.2
  have H2 := fun (W : World) (g c : Nat) => plen_in (w := W) (some ⟨g, 0, none⟩) (q.length + 1) c
  have H3 := fun (W : World) (g c : Nat) (h1 : Wk W base bw gt ct told (.slice (some ⟨g, 0, none⟩) (q.length + 1) c) (q ++ [x])) => up_in (h1.qh (by simp)) (j := q.length) (by simp) (by simp; omega) (upI_push hp x)
  clear h hp
  go_enter Tryz.func149, Tryz.ntmps149
  go_wp2_with (first
    | (go_at_call 215; (with_reducible refine H1.mono ?_); clear H1; rintro e w1 ⟨rfl, g, c, hw1, hf1⟩; have hm1 := HL _ _ _ hw1)
    | (go_at_call 211; (with_reducible refine (H2 _ _ _).mono ?_); clear H2; rintro e w2 ⟨rfl, rfl⟩)
    | (go_at_call 178; (with_reducible refine (H3 _ _ _ hw1).mono ?_); clear H3; rintro e w3 ⟨rfl, m, hmp, hmh, hmq, hb3⟩))
  go_end0
  have hlen : q.length + 1 = m.length := by rw [hmp.length_eq]; simp
  have hfin := hw1.of_qh hlen hmq hb3
  exact ⟨rfl, g, c, m, hmp, hmh, hfin, hf1.trans (Fr.of_but hb3)⟩

end Go.Proofs.YtcpnjfoblacnhaaGreatDoor
