/- HeapPlays: the walk. -/
import Derived.Test.YtkegkpaepkolhaaGreatDoorPly
namespace Go.Proofs.YtkegkpaepkolhaaGreatDoor
open Go.RowKit


/-- What is told of a slice of ops that came in: each one's cells, in every later world. -/
def ToldOps (w : World) (p : Option Addr) (len : Nat) : Prop :=
  ∀ j, j < len → ∃ b0 off : Nat, p = some ⟨b0, off, none⟩ ∧ ∃ v : OpV, v.kd < 256 ∧ v.kk < 256 ∧ v.ww < 18446744073709551616 ∧ (-9223372036854775808 ≤ v.sz ∧ v.sz ≤ 9223372036854775807) ∧ ∀ w', Below w.heap.size w w' →
    w'.cell? ⟨b0, off + j * 6, none⟩ = some (.int .u8 v.kd) ∧ w'.cell? ⟨b0, off + j * 6 + 1, none⟩ = some (.int .u8 v.kk) ∧ w'.cell? ⟨b0, off + j * 6 + 2, none⟩ = some (.int .i64 v.sz) ∧
    w'.cell? ⟨b0, off + j * 6 + 3, none⟩ = some (.int .i64 v.fr) ∧ w'.cell? ⟨b0, off + j * 6 + 4, none⟩ = some (.int .i64 v.to) ∧ w'.cell? ⟨b0, off + j * 6 + 5, none⟩ = some (.int .u64 v.ww)

/-- What New leaves. -/
def NewAt (w : World) (words : Int) (w1 : World) (ph : Option Addr) (er : Int) : Prop :=
  ((words < 1 ∨ 1048576 < words) ∧ ph = none ∧ er = 1 ∧ w1 = w) ∨
  (∃ n bh b : Nat, ∃ vw vb, words = n ∧ 1 ≤ n ∧ n ≤ 1048576 ∧ ph = some ⟨bh, 0, none⟩ ∧ er = 0 ∧ Hp w.heap.size bh b vw vb w1 n 0 [] ∧ Below w.heap.size w w1)

theorem new4 (words : Int) (w : World) : Calls Tryz.prog 4 #[.int .i64 words] w fun e w1 => ∃ ph er, e = .returned (.tuple #[.pointer ph, .int .i64 er]) ∧ NewAt w words w1 ph er := by
  by_cases h : words < 1 ∨ 1048576 < words
  · refine (new_bad words w h).mono ?_
    rintro e w' ⟨he, rfl⟩
    exact ⟨none, 1, he, .inl ⟨h, rfl, rfl, rfl⟩⟩
  · obtain ⟨n, rfl⟩ : ∃ n : Nat, words = n := ⟨words.toNat, by omega⟩
    refine (newM n w (by omega) (by omega)).mono ?_
    rintro e w' ⟨bh, b, vw, vb, he, hp, hB⟩
    exact ⟨_, 0, he, .inr ⟨n, bh, b, vw, vb, rfl, by omega, by omega, rfl, rfl, hp, hB⟩⟩

theorem new5 {w w1 : World} {words : Int} {ph : Option Addr} {er : Int} (h : NewAt w words w1 ph er) : Calls Tryz.prog 5 #[.int .i64 words] w1 fun e w2 => ∃ pr, e = .returned (.tuple #[.pointer pr, .int .i64 er]) ∧
    ((ph = none ∧ pr = none) ∨ ∃ a b, ph = some a ∧ pr = some b) ∧ Below w.heap.size w w2 ∧ ∃ T f, Pair w.heap.size (.pointer ph) (.pointer pr) T ∧ T w2 f := by
  rcases h with ⟨hw, rfl, rfl, rfl⟩ | ⟨n, bh, b, vw, vb, rfl, h1, h2, rfl, rfl, hp, hB⟩
  · refine (rnew_bad words w1 hw).mono ?_
    rintro e w' ⟨he, rfl⟩
    exact ⟨none, he, .inl ⟨rfl, rfl⟩, Below.refl _ _, _, _, pair_gone _, rfl⟩
  · refine (rnew_in n w1 h1 h2).mono ?_
    rintro e w' ⟨br, he, hr, hB2⟩
    refine ⟨_, he, .inr ⟨_, _, rfl, rfl⟩, hB.trans (hB2.mono hB.size), _, _, pair_real _ bh b br n, ⟨vw, vb, .slice none 0 0, 0, []⟩, ⟨hp.below hB2, ?_, by simp⟩, rfl⟩
    exact ⟨Nat.le_trans hB.size hr.base, hr.blk, row_mono' hr.row hB.size, by simp, hr.nod, hr.le, by simp, hr.en20, hr.all20⟩

/-- The zero book, and the zero heap, made by one law each. -/
theorem wpList_build54 {ops : Array Oper} {rest : List Oper} {o : Oper} {a : Act} {Q : Exit → Act → World → Prop} {w : World} (hg : o.guard = none) (ho : o.op = .build 54 #[])
    (h : wpList Tryz.prog ops Q rest (a.put o.dst (.agg #[.int .i64 0, .slice none 0 0, .slice none 0 0, .slice none 0 0, .slice none 0 0, .slice none 0 0, .slice none 0 0, .slice none 0 0, .slice none 0 0, .slice none 0 0, .slice none 0 0, .slice none 0 0, .slice none 0 0, .slice none 0 0, .slice none 0 0, .slice none 0 0, .slice none 0 0, .slice none 0 0, .slice none 0 0, .slice none 0 0, .slice none 0 0])) w) : wpList Tryz.prog ops Q (o :: rest) a w := by
  refine wpList_plain hg fun K hK => wp_build 54 #[] ho (by kernel_rfl) ?_
  have e : (Tryz.prog.built 54 ((#[] : Array (Nat × Operand)).map fun (i, x) => (i, a.eval x)).toList).getD #[] = #[.int .i64 0, .slice none 0 0, .slice none 0 0, .slice none 0 0, .slice none 0 0, .slice none 0 0, .slice none 0 0, .slice none 0 0, .slice none 0 0, .slice none 0 0, .slice none 0 0, .slice none 0 0, .slice none 0 0, .slice none 0 0, .slice none 0 0, .slice none 0 0, .slice none 0 0, .slice none 0 0, .slice none 0 0, .slice none 0 0, .slice none 0 0] := by kernel_rfl
  rw [e]
  exact hK _ _ h

theorem book_new (w2 : World) : ((w2.alloc (.cells #[.pointer none] 32 (0, 0))).alloc (.cells #[.int .i64 0, .slice none 0 0, .slice none 0 0, .slice none 0 0, .slice none 0 0, .slice none 0 0, .slice none 0 0, .slice none 0 0, .slice none 0 0, .slice none 0 0, .slice none 0 0, .slice none 0 0, .slice none 0 0, .slice none 0 0, .slice none 0 0, .slice none 0 0, .slice none 0 0, .slice none 0 0, .slice none 0 0, .slice none 0 0, .slice none 0 0] 54 (0, 0))).heap[w2.heap.size + 1]? = some (.cells #[.int .i64 0, .slice none 0 0, .slice none 0 0, .slice none 0 0, .slice none 0 0, .slice none 0 0, .slice none 0 0, .slice none 0 0, .slice none 0 0, .slice none 0 0, .slice none 0 0, .slice none 0 0, .slice none 0 0, .slice none 0 0, .slice none 0 0, .slice none 0 0, .slice none 0 0, .slice none 0 0, .slice none 0 0, .slice none 0 0, .slice none 0 0] 54 (0, 0)) := by
  have := heap_alloc_new (w2.alloc (.cells #[.pointer none] 32 (0, 0))) (.cells #[.int .i64 0, .slice none 0 0, .slice none 0 0, .slice none 0 0, .slice none 0 0, .slice none 0 0, .slice none 0 0, .slice none 0 0, .slice none 0 0, .slice none 0 0, .slice none 0 0, .slice none 0 0, .slice none 0 0, .slice none 0 0, .slice none 0 0, .slice none 0 0, .slice none 0 0, .slice none 0 0, .slice none 0 0, .slice none 0 0, .slice none 0 0] 54 (0, 0))
  rw [World.size_alloc] at this
  exact this

theorem info54 : (Tryz.prog.info? 54).map (fun i => i.size) = some 21 := by kernel_rfl

theorem ply_start {w w2 : World} {vh vr : Value} {T : World → (Nat → Prop) → Prop} {f : Nat → Prop} (P : Pair w.heap.size vh vr T) (ht : T w2 f) (hB : Below w.heap.size w w2) :
    Ply w.heap.size w2.heap.size (w2.heap.size + 1) T (((w2.alloc (.cells #[.pointer none] 32 (0, 0))).alloc (.cells #[.int .i64 0, .slice none 0 0, .slice none 0 0, .slice none 0 0, .slice none 0 0, .slice none 0 0, .slice none 0 0, .slice none 0 0, .slice none 0 0, .slice none 0 0, .slice none 0 0, .slice none 0 0, .slice none 0 0, .slice none 0 0, .slice none 0 0, .slice none 0 0, .slice none 0 0, .slice none 0 0, .slice none 0 0, .slice none 0 0, .slice none 0 0] 54 (0, 0))).setRow (w2.heap.size + 1) #[.int .i64 0, .slice none 0 0, .slice none 0 0, .slice none 0 0, .slice none 0 0, .slice none 0 0, .slice none 0 0, .slice none 0 0, .slice none 0 0, .slice none 0 0, .slice none 0 0, .slice none 0 0, .slice none 0 0, .slice none 0 0, .slice none 0 0, .slice none 0 0, .slice none 0 0, .slice none 0 0, .slice none 0 0, .slice none 0 0, .slice none 0 0]) f (.slice none 0 0) [] ∧ Below w.heap.size w (((w2.alloc (.cells #[.pointer none] 32 (0, 0))).alloc (.cells #[.int .i64 0, .slice none 0 0, .slice none 0 0, .slice none 0 0, .slice none 0 0, .slice none 0 0, .slice none 0 0, .slice none 0 0, .slice none 0 0, .slice none 0 0, .slice none 0 0, .slice none 0 0, .slice none 0 0, .slice none 0 0, .slice none 0 0, .slice none 0 0, .slice none 0 0, .slice none 0 0, .slice none 0 0, .slice none 0 0, .slice none 0 0] 54 (0, 0))).setRow (w2.heap.size + 1) #[.int .i64 0, .slice none 0 0, .slice none 0 0, .slice none 0 0, .slice none 0 0, .slice none 0 0, .slice none 0 0, .slice none 0 0, .slice none 0 0, .slice none 0 0, .slice none 0 0, .slice none 0 0, .slice none 0 0, .slice none 0 0, .slice none 0 0, .slice none 0 0, .slice none 0 0, .slice none 0 0, .slice none 0 0, .slice none 0 0, .slice none 0 0]) := by
  have hsz := hB.size
  have hn := book_new w2
  have hb2 := below2 (Below.refl w2.heap.size w2) (.cells #[.pointer none] 32 (0, 0)) (.cells #[.int .i64 0, .slice none 0 0, .slice none 0 0, .slice none 0 0, .slice none 0 0, .slice none 0 0, .slice none 0 0, .slice none 0 0, .slice none 0 0, .slice none 0 0, .slice none 0 0, .slice none 0 0, .slice none 0 0, .slice none 0 0, .slice none 0 0, .slice none 0 0, .slice none 0 0, .slice none 0 0, .slice none 0 0, .slice none 0 0, .slice none 0 0] 54 (0, 0))
  have hb3 : Below w2.heap.size w2 (((w2.alloc (.cells #[.pointer none] 32 (0, 0))).alloc (.cells #[.int .i64 0, .slice none 0 0, .slice none 0 0, .slice none 0 0, .slice none 0 0, .slice none 0 0, .slice none 0 0, .slice none 0 0, .slice none 0 0, .slice none 0 0, .slice none 0 0, .slice none 0 0, .slice none 0 0, .slice none 0 0, .slice none 0 0, .slice none 0 0, .slice none 0 0, .slice none 0 0, .slice none 0 0, .slice none 0 0, .slice none 0 0] 54 (0, 0))).setRow (w2.heap.size + 1) #[.int .i64 0, .slice none 0 0, .slice none 0 0, .slice none 0 0, .slice none 0 0, .slice none 0 0, .slice none 0 0, .slice none 0 0, .slice none 0 0, .slice none 0 0, .slice none 0 0, .slice none 0 0, .slice none 0 0, .slice none 0 0, .slice none 0 0, .slice none 0 0, .slice none 0 0, .slice none 0 0, .slice none 0 0, .slice none 0 0, .slice none 0 0]) := ⟨hb2.os, hb2.tape, hb2.output, by have := hb2.size; simp [World.setRow] at this ⊢; omega, fun k hk => (setRow_other _ _ k _ (by omega)).trans (hb2.block k hk)⟩
  refine ⟨⟨P.keep ht (fun k hk => hb3.block k (P.foot ht hk).2.1), hsz, ?_, fun e => by have := (P.foot ht e).2.1; omega, ⟨by omega, setRow_heap _ _ _ _ _ _ hn, World.ownsRow_nil _ _ _ _, by simp, by simp⟩, by simp, List.Pairwise.nil⟩, hB.trans (hb3.mono hsz)⟩
  exact (setRow_other _ _ _ _ (by omega)).trans ((Below.heap_alloc _ _ w2.heap.size (by simp)).trans (heap_alloc_new w2 _))

section
variable {n₀ z bk : Nat} {vh vr vp : Value} {T : World → (Nat → Prop) → Prop} {w wr W : World} {f : Nat → Prop} {H : List He}

/-- An op is asked of the two heaps. -/
theorem ask_real (P : Pair n₀ vh vr T) (h : Ply n₀ z bk T wr f vp H) (v : OpV) (h1 : v.kk < 256) (h2 : v.ww < 18446744073709551616) (hB : Below wr.heap.size wr W) (ho : OpAt W wr.heap.size v) :
    Calls Tryz.prog 6 #[vh, vr, v.agg] W fun e w3 => e = .returned (.bool true) ∧ ∃ f3, Ply n₀ z bk T w3 f3 vp H ∧ OpAt w3 wr.heap.size v ∧ Below n₀ wr w3 := by
  have hW := h.below P hB
  have hn : n₀ ≤ wr.heap.size := Nat.le_trans h.bk.base (Nat.le_of_lt h.bk.lt)
  have hlt : wr.heap.size < W.heap.size := (Array.getElem?_eq_some_iff.1 ho).1
  refine (P.asked v hW.t h1 h2).mono ?_
  rintro e w3 ⟨he, f3, ht, hK, hf⟩
  refine ⟨he, f3, hW.step P ht hK hf, (hK.block _ hlt (fun e => ?_)).trans ho, (hB.mono hn).trans (hK.below (fun k hk => (P.foot hW.t hk).1) (by omega))⟩
  have := (P.foot h.t e).2.1
  omega

/-- .. of a heap that is not there. -/
theorem ask_gone (P : Pair n₀ vh vr T) (h : Ply n₀ z bk T W f vp H) (v : OpV) {vg : Value} (hg : Gone W vg) {q : Nat} (ho : OpAt W q v) :
    Calls Tryz.prog 6 #[vg, .pointer none, v.agg] W fun e w3 => e = .returned (.bool true) ∧ Ply n₀ z bk T w3 f vp H ∧ OpAt w3 q v ∧ Below n₀ W w3 := by
  have hn : n₀ ≤ W.heap.size := Nat.le_trans h.bk.base (Nat.le_of_lt h.bk.lt)
  refine (asked_gone hg v).mono ?_
  rintro e w3 ⟨he, hB⟩
  exact ⟨he, h.below P hB, (hB.block q (Array.getElem?_eq_some_iff.1 ho).1).trans ho, hB.mono hn⟩
end

set_option maxRecDepth 20000 in
set_option maxHeartbeats 4000000 in
theorem play_ok (words : Int) (p : Option Addr) (len cap : Nat) (w : World) (hl : len ≤ 500) (hc : ToldOps w p len) :
    Calls Tryz.prog 3 #[.int .i64 words, .slice p len cap] w fun e w' => e = .returned (.bool true) ∧ Below w.heap.size w w' := by
  have hl' : ¬ ((500 : Int) < (len : Int)) := by omega
  have a1 := new4 words w
  have Hc : Hid (ToldOps w p len) := hc
  clear hc
  go_enter Tryz.func3, Tryz.ntmps3
  go_wp2_with (first
    | (refine wpList_build54 rfl rfl ?_)
    | (refine wpList_store_row rfl 54 (.tmp 12) (.tmp 40) rfl (w2.heap.size + 1) _ rfl rfl 54 _ (book_new w2) info54 rfl (by simp [Value.oneCell']) ?_)
    | (go_at_call 4; refine a1.mono ?_; clear a1; rintro e w1 ⟨ph, er, rfl, hN⟩; have a2 := new5 hN; clear hN)
    | (go_at_call 5; refine a2.mono ?_; clear a2; rintro e w2 ⟨pr, rfl, hpp, hB2, T, f, hP, hT⟩; have HP : Hid (Pair w.heap.size (.pointer ph) (.pointer pr) T) := hP; have HS := ply_start hP hT hB2; clear hP hT hB2; rcases hpp with ⟨rfl, rfl⟩ | ⟨ah, ar, rfl, rfl⟩))
  case _ =>
    go_loopw [13] (fun i wr => ∃ (k : Nat) (f : Nat → Prop) (vp : Value) (H : List He), i = .int .i64 k ∧ k ≤ len ∧ H.length ≤ k ∧ Ply w.heap.size w2.heap.size (w2.heap.size + 1) T wr f vp H ∧ Below w.heap.size w wr) (fun i _ => len - (intOf i).toNat)
    case atStart => exact ⟨0, f, _, _, rfl, by omega, by simp, HS.1, HS.2⟩
    case round =>
      clear HS
      obtain ⟨k, f, vp, H, rfl, hk, hHk, hp, hB⟩ := hrel
      rename World => wo
      by_cases hk2 : k < len
      · obtain ⟨b0, off, rfl, v, hv1, hv2, hv3, hv4, hcell⟩ := Hc.out k hk2
        obtain ⟨c0, c1, c2, c3, c4, c5⟩ := hcell wo hB
        obtain ⟨kd, kk, sz, fr, to, ww⟩ := v
        dsimp only at hv1 hv2 hv3 hv4 c0 c1 c2 c3 c4 c5
        clear hcell
        by_cases hcd : kd = 1 ∧ 2000 < sz ∧ sz ≤ words
        · obtain ⟨rfl, hcd1, hcd2⟩ := hcd
          have b1 := ask_real HP.out hp ⟨1, kk, sz % 2000, fr, to, ww⟩ (by simpa using hv2) (by simpa using hv3) (below_op wo (OpV.obj ⟨1, kk, sz % 2000, fr, to, ww⟩)) (heap_alloc_new wo _)
          simp only [OpV.agg, OpV.obj] at b1
          by_cases hk20 : k < 20
          · have hk20' : ((k : Int) < 20) := by omega
            go_wp2_with (first
            | (go_at_call 6; refine b1.mono ?_; clear b1; rintro e w3 ⟨rfl, f3, p3, o3, B3⟩; obtain ⟨d0, d1, d2, d3, d4, d5⟩ := o3.cells; obtain ⟨u, a7, a8⟩ := HP.out.used p3.t; have b2 := ask_gone HP.out p3 ⟨1, kk, sz % 2000, fr, to, ww⟩ (.inl rfl) o3; clear o3)
            | (go_at_call 7; refine a7.mono ?_; clear a7; rintro e w9 ⟨rfl, rfl⟩)
            | (go_at_call 8; refine a8.mono ?_; clear a8; rintro e w9 ⟨rfl, rfl⟩)
            | (go_at_call 6; refine b2.mono ?_; clear b2; rintro e w4 ⟨rfl, p4, o4, B4⟩; obtain ⟨d0, d1, d2, d3, d4, d5⟩ := o4.cells; have b3 := ask_gone HP.out p4 ⟨1, kk, sz % 2000, fr, to, ww⟩ p4.gone o4; clear o4)
            | (go_at_call 6; refine b3.mono ?_; clear b3; rintro e w5 ⟨rfl, p5, o5, B5⟩; have a10 := HP.out.places p5.t; clear o5)
            | (go_at_call 10; refine a10.mono ?_; clear a10; rintro e w6 ⟨p6, n6, c6, xs6, hn6, rfl, hrow6, hB6⟩; have a9 := p5.place HP.out (by omega) hn6 hrow6 hB6; have B6 := hB6.mono (Nat.le_trans p5.bk.base (Nat.le_of_lt p5.bk.lt)))
            | (go_at_call 9; refine a9.mono ?_; clear a9; rintro e w7 ⟨rfl, vp7, H7, hl7, p7, B7⟩))
            go_roundw
            case rel => exact ⟨k + 1, f3, vp7, H7, by simp, by omega, by omega, p7, hB.trans (B3.trans (B4.trans (B5.trans (B6.trans B7))))⟩
            case measure => simp [intOf]; omega
          · have hk20' : ¬ ((k : Int) < 20) := by omega
            go_wp2_with (first
            | (go_at_call 6; refine b1.mono ?_; clear b1; rintro e w3 ⟨rfl, f3, p3, o3, B3⟩; obtain ⟨d0, d1, d2, d3, d4, d5⟩ := o3.cells; obtain ⟨u, a7, a8⟩ := HP.out.used p3.t; have b2 := ask_gone HP.out p3 ⟨1, kk, sz % 2000, fr, to, ww⟩ (.inl rfl) o3; clear o3)
            | (go_at_call 7; refine a7.mono ?_; clear a7; rintro e w9 ⟨rfl, rfl⟩)
            | (go_at_call 8; refine a8.mono ?_; clear a8; rintro e w9 ⟨rfl, rfl⟩)
            | (go_at_call 6; refine b2.mono ?_; clear b2; rintro e w4 ⟨rfl, p4, o4, B4⟩; obtain ⟨d0, d1, d2, d3, d4, d5⟩ := o4.cells; have b3 := ask_gone HP.out p4 ⟨1, kk, sz % 2000, fr, to, ww⟩ p4.gone o4; clear o4)
            | (go_at_call 6; refine b3.mono ?_; clear b3; rintro e w5 ⟨rfl, p5, o5, B5⟩; have a10 := HP.out.places p5.t; clear o5)
            | (go_at_call 10; refine a10.mono ?_; clear a10; rintro e w6 ⟨p6, n6, c6, xs6, hn6, rfl, hrow6, hB6⟩; have a9 := p5.place HP.out (by omega) hn6 hrow6 hB6; have B6 := hB6.mono (Nat.le_trans p5.bk.base (Nat.le_of_lt p5.bk.lt)))
            | (go_at_call 9; refine a9.mono ?_; clear a9; rintro e w7 ⟨rfl, vp7, H7, hl7, p7, B7⟩))
            go_roundw
            case rel => exact ⟨k + 1, f3, vp, H, by simp, by omega, by omega, p5, hB.trans (B3.trans (B4.trans B5))⟩
            case measure => simp [intOf]; omega
        · have HCD : Hid _ := hcd
          by_cases h1 : kd = 1
          · subst h1
            by_cases h2 : 2000 < sz
            · have h3 : ¬ sz ≤ words := fun h => hcd ⟨rfl, h2, h⟩
              clear hcd
              have b1 := ask_real HP.out hp ⟨1, kk, sz, fr, to, ww⟩ (by simpa using hv2) (by simpa using hv3) (below_op wo (OpV.obj ⟨1, kk, sz, fr, to, ww⟩)) (heap_alloc_new wo _)
              simp only [OpV.agg, OpV.obj] at b1
              by_cases hk20 : k < 20
              · have hk20' : ((k : Int) < 20) := by omega
                go_wp2_with (first
            | (go_at_call 6; refine b1.mono ?_; clear b1; rintro e w3 ⟨rfl, f3, p3, o3, B3⟩; obtain ⟨d0, d1, d2, d3, d4, d5⟩ := o3.cells; obtain ⟨u, a7, a8⟩ := HP.out.used p3.t; have b2 := ask_gone HP.out p3 ⟨1, kk, sz, fr, to, ww⟩ (.inl rfl) o3; clear o3)
            | (go_at_call 7; refine a7.mono ?_; clear a7; rintro e w9 ⟨rfl, rfl⟩)
            | (go_at_call 8; refine a8.mono ?_; clear a8; rintro e w9 ⟨rfl, rfl⟩)
            | (go_at_call 6; refine b2.mono ?_; clear b2; rintro e w4 ⟨rfl, p4, o4, B4⟩; obtain ⟨d0, d1, d2, d3, d4, d5⟩ := o4.cells; have b3 := ask_gone HP.out p4 ⟨1, kk, sz, fr, to, ww⟩ p4.gone o4; clear o4)
            | (go_at_call 6; refine b3.mono ?_; clear b3; rintro e w5 ⟨rfl, p5, o5, B5⟩; have a10 := HP.out.places p5.t; clear o5)
            | (go_at_call 10; refine a10.mono ?_; clear a10; rintro e w6 ⟨p6, n6, c6, xs6, hn6, rfl, hrow6, hB6⟩; have a9 := p5.place HP.out (by omega) hn6 hrow6 hB6; have B6 := hB6.mono (Nat.le_trans p5.bk.base (Nat.le_of_lt p5.bk.lt)))
            | (go_at_call 9; refine a9.mono ?_; clear a9; rintro e w7 ⟨rfl, vp7, H7, hl7, p7, B7⟩))
                go_roundw
                case rel => exact ⟨k + 1, f3, vp7, H7, by simp, by omega, by omega, p7, hB.trans (B3.trans (B4.trans (B5.trans (B6.trans B7))))⟩
                case measure => simp [intOf]; omega
              · have hk20' : ¬ ((k : Int) < 20) := by omega
                go_wp2_with (first
            | (go_at_call 6; refine b1.mono ?_; clear b1; rintro e w3 ⟨rfl, f3, p3, o3, B3⟩; obtain ⟨d0, d1, d2, d3, d4, d5⟩ := o3.cells; obtain ⟨u, a7, a8⟩ := HP.out.used p3.t; have b2 := ask_gone HP.out p3 ⟨1, kk, sz, fr, to, ww⟩ (.inl rfl) o3; clear o3)
            | (go_at_call 7; refine a7.mono ?_; clear a7; rintro e w9 ⟨rfl, rfl⟩)
            | (go_at_call 8; refine a8.mono ?_; clear a8; rintro e w9 ⟨rfl, rfl⟩)
            | (go_at_call 6; refine b2.mono ?_; clear b2; rintro e w4 ⟨rfl, p4, o4, B4⟩; obtain ⟨d0, d1, d2, d3, d4, d5⟩ := o4.cells; have b3 := ask_gone HP.out p4 ⟨1, kk, sz, fr, to, ww⟩ p4.gone o4; clear o4)
            | (go_at_call 6; refine b3.mono ?_; clear b3; rintro e w5 ⟨rfl, p5, o5, B5⟩; have a10 := HP.out.places p5.t; clear o5)
            | (go_at_call 10; refine a10.mono ?_; clear a10; rintro e w6 ⟨p6, n6, c6, xs6, hn6, rfl, hrow6, hB6⟩; have a9 := p5.place HP.out (by omega) hn6 hrow6 hB6; have B6 := hB6.mono (Nat.le_trans p5.bk.base (Nat.le_of_lt p5.bk.lt)))
            | (go_at_call 9; refine a9.mono ?_; clear a9; rintro e w7 ⟨rfl, vp7, H7, hl7, p7, B7⟩))
                go_roundw
                case rel => exact ⟨k + 1, f3, vp, H, by simp, by omega, by omega, p5, hB.trans (B3.trans (B4.trans B5))⟩
                case measure => simp [intOf]; omega
            · clear hcd
              have b1 := ask_real HP.out hp ⟨1, kk, sz, fr, to, ww⟩ (by simpa using hv2) (by simpa using hv3) (below_op wo (OpV.obj ⟨1, kk, sz, fr, to, ww⟩)) (heap_alloc_new wo _)
              simp only [OpV.agg, OpV.obj] at b1
              by_cases hk20 : k < 20
              · have hk20' : ((k : Int) < 20) := by omega
                go_wp2_with (first
            | (go_at_call 6; refine b1.mono ?_; clear b1; rintro e w3 ⟨rfl, f3, p3, o3, B3⟩; obtain ⟨d0, d1, d2, d3, d4, d5⟩ := o3.cells; obtain ⟨u, a7, a8⟩ := HP.out.used p3.t; have b2 := ask_gone HP.out p3 ⟨1, kk, sz, fr, to, ww⟩ (.inl rfl) o3; clear o3)
            | (go_at_call 7; refine a7.mono ?_; clear a7; rintro e w9 ⟨rfl, rfl⟩)
            | (go_at_call 8; refine a8.mono ?_; clear a8; rintro e w9 ⟨rfl, rfl⟩)
            | (go_at_call 6; refine b2.mono ?_; clear b2; rintro e w4 ⟨rfl, p4, o4, B4⟩; obtain ⟨d0, d1, d2, d3, d4, d5⟩ := o4.cells; have b3 := ask_gone HP.out p4 ⟨1, kk, sz, fr, to, ww⟩ p4.gone o4; clear o4)
            | (go_at_call 6; refine b3.mono ?_; clear b3; rintro e w5 ⟨rfl, p5, o5, B5⟩; have a10 := HP.out.places p5.t; clear o5)
            | (go_at_call 10; refine a10.mono ?_; clear a10; rintro e w6 ⟨p6, n6, c6, xs6, hn6, rfl, hrow6, hB6⟩; have a9 := p5.place HP.out (by omega) hn6 hrow6 hB6; have B6 := hB6.mono (Nat.le_trans p5.bk.base (Nat.le_of_lt p5.bk.lt)))
            | (go_at_call 9; refine a9.mono ?_; clear a9; rintro e w7 ⟨rfl, vp7, H7, hl7, p7, B7⟩))
                go_roundw
                case rel => exact ⟨k + 1, f3, vp7, H7, by simp, by omega, by omega, p7, hB.trans (B3.trans (B4.trans (B5.trans (B6.trans B7))))⟩
                case measure => simp [intOf]; omega
              · have hk20' : ¬ ((k : Int) < 20) := by omega
                go_wp2_with (first
            | (go_at_call 6; refine b1.mono ?_; clear b1; rintro e w3 ⟨rfl, f3, p3, o3, B3⟩; obtain ⟨d0, d1, d2, d3, d4, d5⟩ := o3.cells; obtain ⟨u, a7, a8⟩ := HP.out.used p3.t; have b2 := ask_gone HP.out p3 ⟨1, kk, sz, fr, to, ww⟩ (.inl rfl) o3; clear o3)
            | (go_at_call 7; refine a7.mono ?_; clear a7; rintro e w9 ⟨rfl, rfl⟩)
            | (go_at_call 8; refine a8.mono ?_; clear a8; rintro e w9 ⟨rfl, rfl⟩)
            | (go_at_call 6; refine b2.mono ?_; clear b2; rintro e w4 ⟨rfl, p4, o4, B4⟩; obtain ⟨d0, d1, d2, d3, d4, d5⟩ := o4.cells; have b3 := ask_gone HP.out p4 ⟨1, kk, sz, fr, to, ww⟩ p4.gone o4; clear o4)
            | (go_at_call 6; refine b3.mono ?_; clear b3; rintro e w5 ⟨rfl, p5, o5, B5⟩; have a10 := HP.out.places p5.t; clear o5)
            | (go_at_call 10; refine a10.mono ?_; clear a10; rintro e w6 ⟨p6, n6, c6, xs6, hn6, rfl, hrow6, hB6⟩; have a9 := p5.place HP.out (by omega) hn6 hrow6 hB6; have B6 := hB6.mono (Nat.le_trans p5.bk.base (Nat.le_of_lt p5.bk.lt)))
            | (go_at_call 9; refine a9.mono ?_; clear a9; rintro e w7 ⟨rfl, vp7, H7, hl7, p7, B7⟩))
                go_roundw
                case rel => exact ⟨k + 1, f3, vp, H, by simp, by omega, by omega, p5, hB.trans (B3.trans (B4.trans B5))⟩
                case measure => simp [intOf]; omega
          · have h1' : ((kd : Int) == 1) = false := by simp; omega
            clear hcd
            have b1 := ask_real HP.out hp ⟨kd, kk, sz, fr, to, ww⟩ (by simpa using hv2) (by simpa using hv3) (below_op wo (OpV.obj ⟨kd, kk, sz, fr, to, ww⟩)) (heap_alloc_new wo _)
            simp only [OpV.agg, OpV.obj] at b1
            by_cases hk20 : k < 20
            · have hk20' : ((k : Int) < 20) := by omega
              go_wp2_with (first
            | (go_at_call 6; refine b1.mono ?_; clear b1; rintro e w3 ⟨rfl, f3, p3, o3, B3⟩; obtain ⟨d0, d1, d2, d3, d4, d5⟩ := o3.cells; obtain ⟨u, a7, a8⟩ := HP.out.used p3.t; have b2 := ask_gone HP.out p3 ⟨kd, kk, sz, fr, to, ww⟩ (.inl rfl) o3; clear o3)
            | (go_at_call 7; refine a7.mono ?_; clear a7; rintro e w9 ⟨rfl, rfl⟩)
            | (go_at_call 8; refine a8.mono ?_; clear a8; rintro e w9 ⟨rfl, rfl⟩)
            | (go_at_call 6; refine b2.mono ?_; clear b2; rintro e w4 ⟨rfl, p4, o4, B4⟩; obtain ⟨d0, d1, d2, d3, d4, d5⟩ := o4.cells; have b3 := ask_gone HP.out p4 ⟨kd, kk, sz, fr, to, ww⟩ p4.gone o4; clear o4)
            | (go_at_call 6; refine b3.mono ?_; clear b3; rintro e w5 ⟨rfl, p5, o5, B5⟩; have a10 := HP.out.places p5.t; clear o5)
            | (go_at_call 10; refine a10.mono ?_; clear a10; rintro e w6 ⟨p6, n6, c6, xs6, hn6, rfl, hrow6, hB6⟩; have a9 := p5.place HP.out (by omega) hn6 hrow6 hB6; have B6 := hB6.mono (Nat.le_trans p5.bk.base (Nat.le_of_lt p5.bk.lt)))
            | (go_at_call 9; refine a9.mono ?_; clear a9; rintro e w7 ⟨rfl, vp7, H7, hl7, p7, B7⟩))
              go_roundw
              case rel => exact ⟨k + 1, f3, vp7, H7, by simp, by omega, by omega, p7, hB.trans (B3.trans (B4.trans (B5.trans (B6.trans B7))))⟩
              case measure => simp [intOf]; omega
            · have hk20' : ¬ ((k : Int) < 20) := by omega
              go_wp2_with (first
            | (go_at_call 6; refine b1.mono ?_; clear b1; rintro e w3 ⟨rfl, f3, p3, o3, B3⟩; obtain ⟨d0, d1, d2, d3, d4, d5⟩ := o3.cells; obtain ⟨u, a7, a8⟩ := HP.out.used p3.t; have b2 := ask_gone HP.out p3 ⟨kd, kk, sz, fr, to, ww⟩ (.inl rfl) o3; clear o3)
            | (go_at_call 7; refine a7.mono ?_; clear a7; rintro e w9 ⟨rfl, rfl⟩)
            | (go_at_call 8; refine a8.mono ?_; clear a8; rintro e w9 ⟨rfl, rfl⟩)
            | (go_at_call 6; refine b2.mono ?_; clear b2; rintro e w4 ⟨rfl, p4, o4, B4⟩; obtain ⟨d0, d1, d2, d3, d4, d5⟩ := o4.cells; have b3 := ask_gone HP.out p4 ⟨kd, kk, sz, fr, to, ww⟩ p4.gone o4; clear o4)
            | (go_at_call 6; refine b3.mono ?_; clear b3; rintro e w5 ⟨rfl, p5, o5, B5⟩; have a10 := HP.out.places p5.t; clear o5)
            | (go_at_call 10; refine a10.mono ?_; clear a10; rintro e w6 ⟨p6, n6, c6, xs6, hn6, rfl, hrow6, hB6⟩; have a9 := p5.place HP.out (by omega) hn6 hrow6 hB6; have B6 := hB6.mono (Nat.le_trans p5.bk.base (Nat.le_of_lt p5.bk.lt)))
            | (go_at_call 9; refine a9.mono ?_; clear a9; rintro e w7 ⟨rfl, vp7, H7, hl7, p7, B7⟩))
              go_roundw
              case rel => exact ⟨k + 1, f3, vp, H, by simp, by omega, by omega, p5, hB.trans (B3.trans (B4.trans B5))⟩
              case measure => simp [intOf]; omega
      · have hq : ¬ ((k : Int) < (len : Int)) := by omega
        have a11 := hp.apart HP.out
        go_wp2_with (first
          | (go_at_call 11; refine a11.mono ?_; clear a11; rintro e w3 ⟨rfl, t3, g3, B3⟩; have a12 := HP.out.same t3)
          | (go_at_call 12; refine a12.mono ?_; clear a12; rintro e w4 ⟨rfl, B4⟩; have a13 := same_gone (w := w4) (.inl rfl))
          | (go_at_call 12; refine a13.mono ?_; clear a13; rintro e w5 ⟨rfl, B5⟩; have a14 := same_gone ((g3.kept B4).kept B5))
          | (go_at_call 12; refine a14.mono ?_; clear a14; rintro e w6 ⟨rfl, B6⟩))
        go_ret
        have q3 := Nat.le_trans hB.size B3.size
        have q4 := Nat.le_trans q3 B4.size
        have q5 := Nat.le_trans q4 B5.size
        exact ⟨rfl, hB.trans (B3.trans ((B4.mono q3).trans ((B5.mono q4).trans (B6.mono q5))))⟩
  case _ =>
    go_loopw [13] (fun i wr => ∃ (k : Nat) (f : Nat → Prop) (vp : Value) (H : List He), i = .int .i64 k ∧ k ≤ len ∧ H.length ≤ k ∧ Ply w.heap.size w2.heap.size (w2.heap.size + 1) T wr f vp H ∧ Below w.heap.size w wr) (fun i _ => len - (intOf i).toNat)
    case atStart => exact ⟨0, f, _, _, rfl, by omega, by simp, HS.1, HS.2⟩
    case round =>
      clear HS
      obtain ⟨k, f, vp, H, rfl, hk, hHk, hp, hB⟩ := hrel
      rename World => wo
      by_cases hk2 : k < len
      · obtain ⟨b0, off, rfl, v, hv1, hv2, hv3, hv4, hcell⟩ := Hc.out k hk2
        obtain ⟨c0, c1, c2, c3, c4, c5⟩ := hcell wo hB
        obtain ⟨kd, kk, sz, fr, to, ww⟩ := v
        dsimp only at hv1 hv2 hv3 hv4 c0 c1 c2 c3 c4 c5
        clear hcell
        by_cases hcd : kd = 1 ∧ 2000 < sz ∧ sz ≤ words
        · obtain ⟨rfl, hcd1, hcd2⟩ := hcd
          have b1 := ask_real HP.out hp ⟨1, kk, sz % 2000, fr, to, ww⟩ (by simpa using hv2) (by simpa using hv3) (below_op wo (OpV.obj ⟨1, kk, sz % 2000, fr, to, ww⟩)) (heap_alloc_new wo _)
          simp only [OpV.agg, OpV.obj] at b1
          by_cases hk20 : k < 20
          · have hk20' : ((k : Int) < 20) := by omega
            go_wp2_with (first
            | (go_at_call 6; refine b1.mono ?_; clear b1; rintro e w3 ⟨rfl, f3, p3, o3, B3⟩; obtain ⟨d0, d1, d2, d3, d4, d5⟩ := o3.cells; obtain ⟨u, a7, a8⟩ := HP.out.used p3.t; have b2 := ask_gone HP.out p3 ⟨1, kk, sz % 2000, fr, to, ww⟩ (.inl rfl) o3; clear o3)
            | (go_at_call 7; refine a7.mono ?_; clear a7; rintro e w9 ⟨rfl, rfl⟩)
            | (go_at_call 8; refine a8.mono ?_; clear a8; rintro e w9 ⟨rfl, rfl⟩)
            | (go_at_call 6; refine b2.mono ?_; clear b2; rintro e w4 ⟨rfl, p4, o4, B4⟩; obtain ⟨d0, d1, d2, d3, d4, d5⟩ := o4.cells; have b3 := ask_gone HP.out p4 ⟨1, kk, sz % 2000, fr, to, ww⟩ p4.gone o4; clear o4)
            | (go_at_call 6; refine b3.mono ?_; clear b3; rintro e w5 ⟨rfl, p5, o5, B5⟩; have a10 := HP.out.places p5.t; clear o5)
            | (go_at_call 10; refine a10.mono ?_; clear a10; rintro e w6 ⟨p6, n6, c6, xs6, hn6, rfl, hrow6, hB6⟩; have a9 := p5.place HP.out (by omega) hn6 hrow6 hB6; have B6 := hB6.mono (Nat.le_trans p5.bk.base (Nat.le_of_lt p5.bk.lt)))
            | (go_at_call 9; refine a9.mono ?_; clear a9; rintro e w7 ⟨rfl, vp7, H7, hl7, p7, B7⟩))
            go_roundw
            case rel => exact ⟨k + 1, f3, vp7, H7, by simp, by omega, by omega, p7, hB.trans (B3.trans (B4.trans (B5.trans (B6.trans B7))))⟩
            case measure => simp [intOf]; omega
          · have hk20' : ¬ ((k : Int) < 20) := by omega
            go_wp2_with (first
            | (go_at_call 6; refine b1.mono ?_; clear b1; rintro e w3 ⟨rfl, f3, p3, o3, B3⟩; obtain ⟨d0, d1, d2, d3, d4, d5⟩ := o3.cells; obtain ⟨u, a7, a8⟩ := HP.out.used p3.t; have b2 := ask_gone HP.out p3 ⟨1, kk, sz % 2000, fr, to, ww⟩ (.inl rfl) o3; clear o3)
            | (go_at_call 7; refine a7.mono ?_; clear a7; rintro e w9 ⟨rfl, rfl⟩)
            | (go_at_call 8; refine a8.mono ?_; clear a8; rintro e w9 ⟨rfl, rfl⟩)
            | (go_at_call 6; refine b2.mono ?_; clear b2; rintro e w4 ⟨rfl, p4, o4, B4⟩; obtain ⟨d0, d1, d2, d3, d4, d5⟩ := o4.cells; have b3 := ask_gone HP.out p4 ⟨1, kk, sz % 2000, fr, to, ww⟩ p4.gone o4; clear o4)
            | (go_at_call 6; refine b3.mono ?_; clear b3; rintro e w5 ⟨rfl, p5, o5, B5⟩; have a10 := HP.out.places p5.t; clear o5)
            | (go_at_call 10; refine a10.mono ?_; clear a10; rintro e w6 ⟨p6, n6, c6, xs6, hn6, rfl, hrow6, hB6⟩; have a9 := p5.place HP.out (by omega) hn6 hrow6 hB6; have B6 := hB6.mono (Nat.le_trans p5.bk.base (Nat.le_of_lt p5.bk.lt)))
            | (go_at_call 9; refine a9.mono ?_; clear a9; rintro e w7 ⟨rfl, vp7, H7, hl7, p7, B7⟩))
            go_roundw
            case rel => exact ⟨k + 1, f3, vp, H, by simp, by omega, by omega, p5, hB.trans (B3.trans (B4.trans B5))⟩
            case measure => simp [intOf]; omega
        · have HCD : Hid _ := hcd
          by_cases h1 : kd = 1
          · subst h1
            by_cases h2 : 2000 < sz
            · have h3 : ¬ sz ≤ words := fun h => hcd ⟨rfl, h2, h⟩
              clear hcd
              have b1 := ask_real HP.out hp ⟨1, kk, sz, fr, to, ww⟩ (by simpa using hv2) (by simpa using hv3) (below_op wo (OpV.obj ⟨1, kk, sz, fr, to, ww⟩)) (heap_alloc_new wo _)
              simp only [OpV.agg, OpV.obj] at b1
              by_cases hk20 : k < 20
              · have hk20' : ((k : Int) < 20) := by omega
                go_wp2_with (first
            | (go_at_call 6; refine b1.mono ?_; clear b1; rintro e w3 ⟨rfl, f3, p3, o3, B3⟩; obtain ⟨d0, d1, d2, d3, d4, d5⟩ := o3.cells; obtain ⟨u, a7, a8⟩ := HP.out.used p3.t; have b2 := ask_gone HP.out p3 ⟨1, kk, sz, fr, to, ww⟩ (.inl rfl) o3; clear o3)
            | (go_at_call 7; refine a7.mono ?_; clear a7; rintro e w9 ⟨rfl, rfl⟩)
            | (go_at_call 8; refine a8.mono ?_; clear a8; rintro e w9 ⟨rfl, rfl⟩)
            | (go_at_call 6; refine b2.mono ?_; clear b2; rintro e w4 ⟨rfl, p4, o4, B4⟩; obtain ⟨d0, d1, d2, d3, d4, d5⟩ := o4.cells; have b3 := ask_gone HP.out p4 ⟨1, kk, sz, fr, to, ww⟩ p4.gone o4; clear o4)
            | (go_at_call 6; refine b3.mono ?_; clear b3; rintro e w5 ⟨rfl, p5, o5, B5⟩; have a10 := HP.out.places p5.t; clear o5)
            | (go_at_call 10; refine a10.mono ?_; clear a10; rintro e w6 ⟨p6, n6, c6, xs6, hn6, rfl, hrow6, hB6⟩; have a9 := p5.place HP.out (by omega) hn6 hrow6 hB6; have B6 := hB6.mono (Nat.le_trans p5.bk.base (Nat.le_of_lt p5.bk.lt)))
            | (go_at_call 9; refine a9.mono ?_; clear a9; rintro e w7 ⟨rfl, vp7, H7, hl7, p7, B7⟩))
                go_roundw
                case rel => exact ⟨k + 1, f3, vp7, H7, by simp, by omega, by omega, p7, hB.trans (B3.trans (B4.trans (B5.trans (B6.trans B7))))⟩
                case measure => simp [intOf]; omega
              · have hk20' : ¬ ((k : Int) < 20) := by omega
                go_wp2_with (first
            | (go_at_call 6; refine b1.mono ?_; clear b1; rintro e w3 ⟨rfl, f3, p3, o3, B3⟩; obtain ⟨d0, d1, d2, d3, d4, d5⟩ := o3.cells; obtain ⟨u, a7, a8⟩ := HP.out.used p3.t; have b2 := ask_gone HP.out p3 ⟨1, kk, sz, fr, to, ww⟩ (.inl rfl) o3; clear o3)
            | (go_at_call 7; refine a7.mono ?_; clear a7; rintro e w9 ⟨rfl, rfl⟩)
            | (go_at_call 8; refine a8.mono ?_; clear a8; rintro e w9 ⟨rfl, rfl⟩)
            | (go_at_call 6; refine b2.mono ?_; clear b2; rintro e w4 ⟨rfl, p4, o4, B4⟩; obtain ⟨d0, d1, d2, d3, d4, d5⟩ := o4.cells; have b3 := ask_gone HP.out p4 ⟨1, kk, sz, fr, to, ww⟩ p4.gone o4; clear o4)
            | (go_at_call 6; refine b3.mono ?_; clear b3; rintro e w5 ⟨rfl, p5, o5, B5⟩; have a10 := HP.out.places p5.t; clear o5)
            | (go_at_call 10; refine a10.mono ?_; clear a10; rintro e w6 ⟨p6, n6, c6, xs6, hn6, rfl, hrow6, hB6⟩; have a9 := p5.place HP.out (by omega) hn6 hrow6 hB6; have B6 := hB6.mono (Nat.le_trans p5.bk.base (Nat.le_of_lt p5.bk.lt)))
            | (go_at_call 9; refine a9.mono ?_; clear a9; rintro e w7 ⟨rfl, vp7, H7, hl7, p7, B7⟩))
                go_roundw
                case rel => exact ⟨k + 1, f3, vp, H, by simp, by omega, by omega, p5, hB.trans (B3.trans (B4.trans B5))⟩
                case measure => simp [intOf]; omega
            · clear hcd
              have b1 := ask_real HP.out hp ⟨1, kk, sz, fr, to, ww⟩ (by simpa using hv2) (by simpa using hv3) (below_op wo (OpV.obj ⟨1, kk, sz, fr, to, ww⟩)) (heap_alloc_new wo _)
              simp only [OpV.agg, OpV.obj] at b1
              by_cases hk20 : k < 20
              · have hk20' : ((k : Int) < 20) := by omega
                go_wp2_with (first
            | (go_at_call 6; refine b1.mono ?_; clear b1; rintro e w3 ⟨rfl, f3, p3, o3, B3⟩; obtain ⟨d0, d1, d2, d3, d4, d5⟩ := o3.cells; obtain ⟨u, a7, a8⟩ := HP.out.used p3.t; have b2 := ask_gone HP.out p3 ⟨1, kk, sz, fr, to, ww⟩ (.inl rfl) o3; clear o3)
            | (go_at_call 7; refine a7.mono ?_; clear a7; rintro e w9 ⟨rfl, rfl⟩)
            | (go_at_call 8; refine a8.mono ?_; clear a8; rintro e w9 ⟨rfl, rfl⟩)
            | (go_at_call 6; refine b2.mono ?_; clear b2; rintro e w4 ⟨rfl, p4, o4, B4⟩; obtain ⟨d0, d1, d2, d3, d4, d5⟩ := o4.cells; have b3 := ask_gone HP.out p4 ⟨1, kk, sz, fr, to, ww⟩ p4.gone o4; clear o4)
            | (go_at_call 6; refine b3.mono ?_; clear b3; rintro e w5 ⟨rfl, p5, o5, B5⟩; have a10 := HP.out.places p5.t; clear o5)
            | (go_at_call 10; refine a10.mono ?_; clear a10; rintro e w6 ⟨p6, n6, c6, xs6, hn6, rfl, hrow6, hB6⟩; have a9 := p5.place HP.out (by omega) hn6 hrow6 hB6; have B6 := hB6.mono (Nat.le_trans p5.bk.base (Nat.le_of_lt p5.bk.lt)))
            | (go_at_call 9; refine a9.mono ?_; clear a9; rintro e w7 ⟨rfl, vp7, H7, hl7, p7, B7⟩))
                go_roundw
                case rel => exact ⟨k + 1, f3, vp7, H7, by simp, by omega, by omega, p7, hB.trans (B3.trans (B4.trans (B5.trans (B6.trans B7))))⟩
                case measure => simp [intOf]; omega
              · have hk20' : ¬ ((k : Int) < 20) := by omega
                go_wp2_with (first
            | (go_at_call 6; refine b1.mono ?_; clear b1; rintro e w3 ⟨rfl, f3, p3, o3, B3⟩; obtain ⟨d0, d1, d2, d3, d4, d5⟩ := o3.cells; obtain ⟨u, a7, a8⟩ := HP.out.used p3.t; have b2 := ask_gone HP.out p3 ⟨1, kk, sz, fr, to, ww⟩ (.inl rfl) o3; clear o3)
            | (go_at_call 7; refine a7.mono ?_; clear a7; rintro e w9 ⟨rfl, rfl⟩)
            | (go_at_call 8; refine a8.mono ?_; clear a8; rintro e w9 ⟨rfl, rfl⟩)
            | (go_at_call 6; refine b2.mono ?_; clear b2; rintro e w4 ⟨rfl, p4, o4, B4⟩; obtain ⟨d0, d1, d2, d3, d4, d5⟩ := o4.cells; have b3 := ask_gone HP.out p4 ⟨1, kk, sz, fr, to, ww⟩ p4.gone o4; clear o4)
            | (go_at_call 6; refine b3.mono ?_; clear b3; rintro e w5 ⟨rfl, p5, o5, B5⟩; have a10 := HP.out.places p5.t; clear o5)
            | (go_at_call 10; refine a10.mono ?_; clear a10; rintro e w6 ⟨p6, n6, c6, xs6, hn6, rfl, hrow6, hB6⟩; have a9 := p5.place HP.out (by omega) hn6 hrow6 hB6; have B6 := hB6.mono (Nat.le_trans p5.bk.base (Nat.le_of_lt p5.bk.lt)))
            | (go_at_call 9; refine a9.mono ?_; clear a9; rintro e w7 ⟨rfl, vp7, H7, hl7, p7, B7⟩))
                go_roundw
                case rel => exact ⟨k + 1, f3, vp, H, by simp, by omega, by omega, p5, hB.trans (B3.trans (B4.trans B5))⟩
                case measure => simp [intOf]; omega
          · have h1' : ((kd : Int) == 1) = false := by simp; omega
            clear hcd
            have b1 := ask_real HP.out hp ⟨kd, kk, sz, fr, to, ww⟩ (by simpa using hv2) (by simpa using hv3) (below_op wo (OpV.obj ⟨kd, kk, sz, fr, to, ww⟩)) (heap_alloc_new wo _)
            simp only [OpV.agg, OpV.obj] at b1
            by_cases hk20 : k < 20
            · have hk20' : ((k : Int) < 20) := by omega
              go_wp2_with (first
            | (go_at_call 6; refine b1.mono ?_; clear b1; rintro e w3 ⟨rfl, f3, p3, o3, B3⟩; obtain ⟨d0, d1, d2, d3, d4, d5⟩ := o3.cells; obtain ⟨u, a7, a8⟩ := HP.out.used p3.t; have b2 := ask_gone HP.out p3 ⟨kd, kk, sz, fr, to, ww⟩ (.inl rfl) o3; clear o3)
            | (go_at_call 7; refine a7.mono ?_; clear a7; rintro e w9 ⟨rfl, rfl⟩)
            | (go_at_call 8; refine a8.mono ?_; clear a8; rintro e w9 ⟨rfl, rfl⟩)
            | (go_at_call 6; refine b2.mono ?_; clear b2; rintro e w4 ⟨rfl, p4, o4, B4⟩; obtain ⟨d0, d1, d2, d3, d4, d5⟩ := o4.cells; have b3 := ask_gone HP.out p4 ⟨kd, kk, sz, fr, to, ww⟩ p4.gone o4; clear o4)
            | (go_at_call 6; refine b3.mono ?_; clear b3; rintro e w5 ⟨rfl, p5, o5, B5⟩; have a10 := HP.out.places p5.t; clear o5)
            | (go_at_call 10; refine a10.mono ?_; clear a10; rintro e w6 ⟨p6, n6, c6, xs6, hn6, rfl, hrow6, hB6⟩; have a9 := p5.place HP.out (by omega) hn6 hrow6 hB6; have B6 := hB6.mono (Nat.le_trans p5.bk.base (Nat.le_of_lt p5.bk.lt)))
            | (go_at_call 9; refine a9.mono ?_; clear a9; rintro e w7 ⟨rfl, vp7, H7, hl7, p7, B7⟩))
              go_roundw
              case rel => exact ⟨k + 1, f3, vp7, H7, by simp, by omega, by omega, p7, hB.trans (B3.trans (B4.trans (B5.trans (B6.trans B7))))⟩
              case measure => simp [intOf]; omega
            · have hk20' : ¬ ((k : Int) < 20) := by omega
              go_wp2_with (first
            | (go_at_call 6; refine b1.mono ?_; clear b1; rintro e w3 ⟨rfl, f3, p3, o3, B3⟩; obtain ⟨d0, d1, d2, d3, d4, d5⟩ := o3.cells; obtain ⟨u, a7, a8⟩ := HP.out.used p3.t; have b2 := ask_gone HP.out p3 ⟨kd, kk, sz, fr, to, ww⟩ (.inl rfl) o3; clear o3)
            | (go_at_call 7; refine a7.mono ?_; clear a7; rintro e w9 ⟨rfl, rfl⟩)
            | (go_at_call 8; refine a8.mono ?_; clear a8; rintro e w9 ⟨rfl, rfl⟩)
            | (go_at_call 6; refine b2.mono ?_; clear b2; rintro e w4 ⟨rfl, p4, o4, B4⟩; obtain ⟨d0, d1, d2, d3, d4, d5⟩ := o4.cells; have b3 := ask_gone HP.out p4 ⟨kd, kk, sz, fr, to, ww⟩ p4.gone o4; clear o4)
            | (go_at_call 6; refine b3.mono ?_; clear b3; rintro e w5 ⟨rfl, p5, o5, B5⟩; have a10 := HP.out.places p5.t; clear o5)
            | (go_at_call 10; refine a10.mono ?_; clear a10; rintro e w6 ⟨p6, n6, c6, xs6, hn6, rfl, hrow6, hB6⟩; have a9 := p5.place HP.out (by omega) hn6 hrow6 hB6; have B6 := hB6.mono (Nat.le_trans p5.bk.base (Nat.le_of_lt p5.bk.lt)))
            | (go_at_call 9; refine a9.mono ?_; clear a9; rintro e w7 ⟨rfl, vp7, H7, hl7, p7, B7⟩))
              go_roundw
              case rel => exact ⟨k + 1, f3, vp, H, by simp, by omega, by omega, p5, hB.trans (B3.trans (B4.trans B5))⟩
              case measure => simp [intOf]; omega
      · have hq : ¬ ((k : Int) < (len : Int)) := by omega
        have a11 := hp.apart HP.out
        go_wp2_with (first
          | (go_at_call 11; refine a11.mono ?_; clear a11; rintro e w3 ⟨rfl, t3, g3, B3⟩; have a12 := HP.out.same t3)
          | (go_at_call 12; refine a12.mono ?_; clear a12; rintro e w4 ⟨rfl, B4⟩; have a13 := same_gone (w := w4) (.inl rfl))
          | (go_at_call 12; refine a13.mono ?_; clear a13; rintro e w5 ⟨rfl, B5⟩; have a14 := same_gone ((g3.kept B4).kept B5))
          | (go_at_call 12; refine a14.mono ?_; clear a14; rintro e w6 ⟨rfl, B6⟩))
        go_ret
        have q3 := Nat.le_trans hB.size B3.size
        have q4 := Nat.le_trans q3 B4.size
        have q5 := Nat.le_trans q4 B5.size
        exact ⟨rfl, hB.trans (B3.trans ((B4.mono q3).trans ((B5.mono q4).trans (B6.mono q5))))⟩

end Go.Proofs.YtkegkpaepkolhaaGreatDoor
