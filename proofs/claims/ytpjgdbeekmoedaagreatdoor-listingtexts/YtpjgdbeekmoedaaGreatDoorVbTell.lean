/- The program's walk: a place is told; those next to one. -/
import Derived.Test.YtpjgdbeekmoedaaGreatDoorVbWalk
import Derived.Test.YtpjgdbeekmoedaaGreatDoorVfPNext
import Derived.Deep.CutRange
namespace Go.Proofs.YtpjgdbeekmoedaaGreatDoor
set_option linter.unusedVariables false
set_option linter.unusedSimpArgs false
open Go.RowKit

variable {w : World}

/-- A walk as it stands: what waits is what was told and not taken. -/
structure St (W : World) (base bw gt ct gb cb n : Nat) (told : List Int) (taken : List Bool) (bs : List Nat) (lst : Nat) : Prop where
  wk : Wk W base bw gt ct gb cb told bs lst
  qb : Qb n told taken bs lst
  lo : ∀ k, -1 ≤ told.getD k (-1)

theorem St.kept {W W' : World} {base bw gt ct gb cb n : Nat} {told : List Int} {taken : List Bool} {bs : List Nat} {lst : Nat} (h : St W base bw gt ct gb cb n told taken bs lst) (hB : Below W.heap.size W W') : St W' base bw gt ct gb cb n told taken bs lst := ⟨h.wk.kept hB, h.qb, h.lo⟩

/-- What telling several comes to. -/
def TellsP (base bw gt ct gb cb n : Nat) (told : List Int) (taken : List Bool) (l : List (Nat × Int)) (b : Bool) (w w' : World) : Prop :=
  ∃ told' bs' lst', St w' base bw gt ct gb cb n told' taken bs' lst' ∧ Fr bw gt gb w w' ∧ ((b = true ∧ tellsP l told = some told') ∨ (b = false ∧ tellsP l told = none))

theorem TellsP.to {base bw gt ct gb cb n : Nat} {told : List Int} {taken : List Bool} {l : List (Nat × Int)} {b : Bool} {a w w' : World} (h : TellsP base bw gt ct gb cb n told taken l b w w') (hf : Fr bw gt gb a w) : TellsP base bw gt ct gb cb n told taken l b a w' := by
  obtain ⟨t, bs, lst, h1, h2, h3⟩ := h
  exact ⟨t, bs, lst, h1, hf.trans h2, h3⟩

set_option maxRecDepth 20000 in
set_option maxHeartbeats 2000000 in
theorem ptell_in {base bw gt ct gb cb n : Nat} {told : List Int} {taken : List Bool} {bs : List Nat} {lst : Nat} (h : St w base bw gt ct gb cb n told taken bs lst) (hn : n ≤ 16384) (k : Nat) (hk : k < n) (d : Int) (hd : 0 ≤ d) :
    Calls Tryz.prog 104 #[.pointer (some ⟨bw, 0, none⟩), .int .i64 k, .int .i64 d] w fun e w' => ∃ b, e = .returned (.bool b) ∧ TellsP base bw gt ct gb cb n told taken [(k, d)] b w w' := by
  have hkl : k < told.length := by rw [h.qb.tl]; exact hk
  obtain ⟨x, hx⟩ : ∃ x, told[k]? = some x := ⟨told[k], by simp⟩
  have hxD : told.getD k (-1) = x := by rw [List.getD_eq_getElem?_getD, hx]; rfl
  have hx1 := h.lo k
  rw [hxD] at hx1
  have hk' : (k : Int) < (told.length : Int) := by omega
  obtain ⟨⟨c0, -, -⟩, -⟩ := h.wk.cells
  have r0 := h.wk.tr.at hx
  have fr := h.wk.tr.frozen k
  have HH : Hid _ := h
  unfold TellsP
  simp only [tellsP_one]
  by_cases h0 : x = -1
  · subst h0
    have h1 := h.wk.tset hkl d
    have H1 := badd_in h1 (k := k) (by rw [h.qb.bl]; omega) h.qb.w64 (by rw [h.qb.bl]; omega)
    have TP : Hid (tellP told k d = some (told.set k d)) := by
      show tellP told k d = _
      unfold tellP; rw [hxD, if_neg (by omega)]
    have HX : Hid _ := hxD
    have HK : Hid (k < told.length) := hkl
    clear h hxD hx h1 hkl
    go_enter Tryz.func104, Tryz.ntmps104
    go_wp2_with (first
      | (go_at_call 191; (with_reducible refine H1.mono ?_); clear H1; rintro e w2 ⟨rfl, hw2, hf2⟩; obtain ⟨⟨e0, -, -⟩, -⟩ := hw2.cells; have er := hw2.tr.at (j := k) (x := d) (by rw [List.getElem?_set]; simp [HK.out]); have e2 : (k : Int) < ((told.set k d).length : Int) := (by rw [List.length_set]; exact hk'); rw [List.length_set] at e0 e2))
    go_ret
    have h := HH.out
    refine ⟨_, rfl, told.set k d, _, _, ⟨hw2, h.qb.push hk hd (by rw [HX.out]; omega), fun j => ?_⟩, (Fr.sett w _ _).trans hf2, .inl ⟨by simp, TP.out⟩⟩
    rw [getD_set_if' _ _ _ _ HK.out]
    split
    · omega
    · exact h.lo j
  · have h0' : (x == -1) = false := by simpa using h0
    have TP : Hid ((decide (x = d) = true ∧ tellP told k d = some told) ∨ (decide (x = d) = false ∧ tellP told k d = none)) := by
      show _ ∨ _
      unfold tellP
      rw [hxD]
      by_cases e : x = d
      · refine .inl ⟨by simpa using e, ?_⟩
        rw [if_neg (by omega), h.qb.same hk (by rw [hxD]; exact e)]
      · refine .inr ⟨by simpa using e, ?_⟩
        rw [if_pos ⟨by omega, e⟩]
    clear h hxD hx hkl
    go_enter Tryz.func104, Tryz.ntmps104
    go_wp2
    go_ret
    exact ⟨_, rfl, told, bs, lst, HH.out, .refl _ _ _ _, by have := TP.out; simpa using this⟩

theorem tells_none' {a b : List (Nat × Int)} {t : List Int} (h : tellsP a t = none) : tellsP (a ++ b) t = none := by rw [tellsP_append, h]; rfl

def HaltP (p : Prop) : Prop := p

theorem haltP {p : Prop} (h : HaltP p) : p := h

theorem TellsP.nil {base bw gt ct gb cb n : Nat} {told : List Int} {taken : List Bool} {bs : List Nat} {lst : Nat} {w' : World} (h : St w' base bw gt ct gb cb n told taken bs lst) (hf : Fr bw gt gb w w') : TellsP base bw gt ct gb cb n told taken [] true w w' :=
  ⟨told, bs, lst, h, hf, .inl ⟨rfl, rfl⟩⟩

/-- One telling more. -/
theorem TellsP.snoc {base bw gt ct gb cb n : Nat} {told told' : List Int} {taken : List Bool} {l : List (Nat × Int)} {k : Nat} {d : Int} {b : Bool} {w1 w2 : World}
    (h2 : Fr bw gt gb w w1) (h3 : tellsP l told = some told') (ht : TellsP base bw gt ct gb cb n told' taken [(k, d)] b w1 w2) : TellsP base bw gt ct gb cb n told taken (l ++ [(k, d)]) b w w2 := by
  obtain ⟨t, bs', lst', q1, q2, q3⟩ := ht
  have e : tellsP (l ++ [(k, d)]) told = tellsP [(k, d)] told' := by rw [tellsP_append, h3]; rfl
  exact ⟨t, bs', lst', q1, h2.trans q2, by rw [e]; exact q3⟩

theorem cell_row5e {W : World} {g : Nat} {a b c d e : Value} {t : TypeId} (h : W.heap[g]? = some (.cells #[a, b, c, d, e] t (0, 0))) : W.cell? ⟨g, 0, none⟩ = some a ∧ W.cell? ⟨g, 4, none⟩ = some e := ⟨by rw [cell_of_row W g 0 _ _ _ h]; rfl, by rw [cell_of_row W g 4 _ _ _ h]; rfl⟩

set_option maxRecDepth 20000 in
set_option maxHeartbeats 4000000 in
theorem pnext_in {base bw gt ct gb cb n : Nat} {told : List Int} {taken : List Bool} {bs : List Nat} {lst : Nat} (h : St w base bw gt ct gb cb n told taken bs lst) (hn : n ≤ 16384) (i : In) (ho : i.op < 256) (pc : Nat) (d : Int) (hd : 0 ≤ d) (hx : ∀ q ∈ nextsP i pc, q < n) (ha : (i.op = 19 ∨ i.op = 20 ∨ i.op = 21) → 0 ≤ i.a) (ht : RowsT w) :
    Calls Tryz.prog 109 #[.pointer (some ⟨bw, 0, none⟩), .agg #[.int .u8 i.op, .int .i64 i.a], .int .i64 pc, .int .i64 d] w fun e w' => ∃ b, e = .returned (.bool b) ∧ TellsP base bw gt ct gb cb n told taken ((nextsP i pc).map (fun q => (q, d))) b w w' := by
  rw [row_nexts i pc] at hx ⊢
  have hpl := row_place i
  have hbw := h.wk.lt
  have hB0 := below1 w (.cells #[.int .u8 i.op, .int .i64 i.a] 120)
  have hz0 := heap_alloc_new w (.cells #[.int .u8 i.op, .int .i64 i.a] 120)
  have H := rowOf_in i.op ho (ht.below hB0)
  have HT : Hid _ := ht
  obtain ⟨op, a⟩ := i
  simp only at *
  unfold rwA at H
  generalize rowP op = r at *
  obtain ⟨nm, t, ea, lv, en⟩ := r
  simp only at *
  generalize rowOk op = rk at H
  -- the world behind the row
  have HB : Hid (∀ (o : Obj) (W : World), Below (w.alloc (.cells #[.int .u8 op, .int .i64 a] 120)).heap.size (w.alloc (.cells #[.int .u8 op, .int .i64 a] 120)) W → Below w.heap.size w (W.alloc o)) := fun o W hW => by
    have h1 := hB0.trans (hW.mono hB0.size)
    exact h1.alloc h1.size _
  have H1 : en = false → ∀ W, Below w.heap.size w W → Calls Tryz.prog 104 #[.pointer (some ⟨bw, 0, none⟩), .int .i64 ((pc : Int) + 1), .int .i64 d] W fun e w' => ∃ b, e = .returned (.bool b) ∧ TellsP base bw gt ct gb cb n told taken [(pc + 1, d)] b W w' :=
    fun e W hB => ptell_in (h.kept hB) hn (pc + 1) (hx (pc + 1) (by simp [e])) d hd
  have H2 : (nm = 6 ∨ nm = 7) → ∀ W t' bs' lst', St W base bw gt ct gb cb n t' taken bs' lst' → Calls Tryz.prog 104 #[.pointer (some ⟨bw, 0, none⟩), .int .i64 a, .int .i64 d] W fun e w' => ∃ b, e = .returned (.bool b) ∧ TellsP base bw gt ct gb cb n t' taken [(a.toNat, d)] b W w' := by
    intro e W t' bs' lst' hs
    have h0 := ha (hpl.1 e)
    have := ptell_in hs hn a.toNat (hx a.toNat (by simp [e])) d hd
    rw [Int.toNat_of_nonneg h0] at this
    exact this
  have HH : Hid _ := h
  have hpc : en = false → (pc : Int) < 16384 := fun e => by have := hx (pc + 1) (by simp [e]); omega
  clear ha hpl hx h ht
  cases en with
  | true =>
    by_cases hp : nm = 6 ∨ nm = 7
    · have H2' := H2 hp
      have e67 : ((nm : Int) == 6) = true ∨ (((nm : Int) == 6) = false ∧ ((nm : Int) == 7) = true) := by
        rcases hp with rfl | rfl
        · exact .inl rfl
        · exact .inr ⟨rfl, rfl⟩
      rw [if_pos rfl, if_pos hp]
      simp only [List.nil_append, List.map_cons, List.map_nil]
      clear H1 H2 hp
      rcases e67 with e6 | ⟨e6, e7⟩
      all_goals
        go_enter Tryz.func109, Tryz.ntmps109
        go_wp2_with (first
          | (go_at_call 193; (with_reducible refine H.mono ?_); clear H; rintro e w1 ⟨rfl, hw1⟩; have hB1 := HB.out (.cells #[.int .u8 nm, .int .u8 t, .int .u8 ea, .int .u8 lv, .bool true] 307) _ hw1; have cA := (cell_row2 ((Below.heap_alloc w1 (.cells #[.int .u8 nm, .int .u8 t, .int .u8 ea, .int .u8 lv, .bool true] 307) w.heap.size (Nat.lt_of_lt_of_le (by simp) hw1.size)).trans ((hw1.block w.heap.size (by simp)).trans hz0))).1.2; have H3 := H2' _ _ _ _ (HH.out.kept hB1))
          | (go_at_call 104; (with_reducible refine H3.mono ?_); clear H3; rintro e w3 ⟨b3, rfl, ht3⟩))
        go_ret
        exact ⟨_, rfl, ht3.to (.of_below hB1)⟩
    · have e6 : ((nm : Int) == 6) = false := by simp; omega
      have e7 : ((nm : Int) == 7) = false := by simp; omega
      rw [if_pos rfl, if_neg hp]
      simp only [List.nil_append, List.map_nil]
      clear H1 H2 hp
      go_enter Tryz.func109, Tryz.ntmps109
      go_wp2_with (first
        | (go_at_call 193; (with_reducible refine H.mono ?_); clear H; rintro e w1 ⟨rfl, hw1⟩; have hB1 := HB.out (.cells #[.int .u8 nm, .int .u8 t, .int .u8 ea, .int .u8 lv, .bool true] 307) _ hw1; have cA := (cell_row2 ((Below.heap_alloc w1 (.cells #[.int .u8 nm, .int .u8 t, .int .u8 ea, .int .u8 lv, .bool true] 307) w.heap.size (Nat.lt_of_lt_of_le (by simp) hw1.size)).trans ((hw1.block w.heap.size (by simp)).trans hz0))).1.2))
      go_ret
      exact ⟨_, rfl, .nil (HH.out.kept hB1) (.of_below hB1)⟩
  | false =>
    have H1' := H1 rfl
    have hpc' := hpc rfl
    clear H1 hpc
    by_cases hp : nm = 6 ∨ nm = 7
    · have H2' := H2 hp
      have e67 : ((nm : Int) == 6) = true ∨ (((nm : Int) == 6) = false ∧ ((nm : Int) == 7) = true) := by
        rcases hp with rfl | rfl
        · exact .inl rfl
        · exact .inr ⟨rfl, rfl⟩
      rw [if_neg (by simp), if_pos hp]
      simp only [List.map_append, List.map_cons, List.map_nil]
      clear H2 hp
      rcases e67 with e6 | ⟨e6, e7⟩
      all_goals
        go_enter Tryz.func109, Tryz.ntmps109
        go_wp2_with (first
          | (go_at_call 193; (with_reducible refine H.mono ?_); clear H; rintro e w1 ⟨rfl, hw1⟩; have hB1 := HB.out (.cells #[.int .u8 nm, .int .u8 t, .int .u8 ea, .int .u8 lv, .bool false] 307) _ hw1; have cA := (cell_row2 ((Below.heap_alloc w1 (.cells #[.int .u8 nm, .int .u8 t, .int .u8 ea, .int .u8 lv, .bool false] 307) w.heap.size (Nat.lt_of_lt_of_le (by simp) hw1.size)).trans ((hw1.block w.heap.size (by simp)).trans hz0))).1.2; have H3 := H1' _ hB1)
          | (go_at_call 104; (with_reducible refine H3.mono ?_); clear H3 H1'; rintro e w3 ⟨b3, rfl, ht3⟩; refine haltP ?_))
        unfold HaltP
        obtain ⟨t', bs', lst', st3, fr3, hb3⟩ := ht3
        have fr0 := (Fr.of_below (bw := bw) (gt := gt) (gb := gb) hB1).trans fr3
        have hl1 := HH.out.wk.lt
        have hl2 := HH.out.wk.tr.lt.2
        have hl3 := HH.out.wk.br.lt.2
        have hws := hw1.size
        simp only [World.size_alloc] at hws
        rcases hb3 with ⟨rfl, hs3⟩ | ⟨rfl, hs3⟩
        · have r3 : w3.heap[w1.heap.size]? = some (.cells #[.int .u8 nm, .int .u8 t, .int .u8 ea, .int .u8 lv, .bool false] 307 (0, 0)) :=
            (fr3.block _ (by simp) (by omega) (by omega) (by omega)).trans (heap_alloc_new w1 _)
          obtain ⟨cB0, cB4⟩ := cell_row5e r3
          have cI := (cell_row2 ((fr3.block w.heap.size (by simp; omega) (by omega) (by omega) (by omega)).trans ((Below.heap_alloc w1 (.cells #[.int .u8 nm, .int .u8 t, .int .u8 ea, .int .u8 lv, .bool false] 307) w.heap.size (by omega)).trans ((hw1.block w.heap.size (by simp)).trans hz0)))).1.2
          have H4 := H2' w3 t' bs' lst' st3
          clear H2' r3 cA hw1 hl1 hl2 hl3
          go_wp2_with (first
            | (go_at_call 104; (with_reducible refine H4.mono ?_); clear H4; rintro e w4 ⟨b4, rfl, ht4⟩))
          go_ret
          exact ⟨_, rfl, .snoc fr0 hs3 ht4⟩
        · clear H2' cA hw1
          go_wp2
          go_ret
          exact ⟨_, rfl, t', bs', lst', st3, fr0, .inr ⟨rfl, tells_none' hs3⟩⟩
    · have e6 : ((nm : Int) == 6) = false := by simp; omega
      have e7 : ((nm : Int) == 7) = false := by simp; omega
      rw [if_neg (by simp), if_neg hp]
      simp only [List.append_nil, List.map_cons, List.map_nil]
      clear H2 hp
      go_enter Tryz.func109, Tryz.ntmps109
      go_wp2_with (first
        | (go_at_call 193; (with_reducible refine H.mono ?_); clear H; rintro e w1 ⟨rfl, hw1⟩; have hB1 := HB.out (.cells #[.int .u8 nm, .int .u8 t, .int .u8 ea, .int .u8 lv, .bool false] 307) _ hw1; have cA := (cell_row2 ((Below.heap_alloc w1 (.cells #[.int .u8 nm, .int .u8 t, .int .u8 ea, .int .u8 lv, .bool false] 307) w.heap.size (Nat.lt_of_lt_of_le (by simp) hw1.size)).trans ((hw1.block w.heap.size (by simp)).trans hz0))).1.2; have H3 := H1' _ hB1)
        | (go_at_call 104; (with_reducible refine H3.mono ?_); clear H3 H1'; rintro e w3 ⟨b3, rfl, ht3⟩; refine haltP ?_))
      unfold HaltP
      obtain ⟨t', bs', lst', st3, fr3, hb3⟩ := ht3
      have fr0 := (Fr.of_below (bw := bw) (gt := gt) (gb := gb) hB1).trans fr3
      have hl1 := HH.out.wk.lt
      have hl2 := HH.out.wk.tr.lt.2
      have hl3 := HH.out.wk.br.lt.2
      have hws := hw1.size
      simp only [World.size_alloc] at hws
      rcases hb3 with ⟨rfl, hs3⟩ | ⟨rfl, hs3⟩
      · have r3 : w3.heap[w1.heap.size]? = some (.cells #[.int .u8 nm, .int .u8 t, .int .u8 ea, .int .u8 lv, .bool false] 307 (0, 0)) :=
          (fr3.block _ (by simp) (by omega) (by omega) (by omega)).trans (heap_alloc_new w1 _)
        obtain ⟨cB0, cB4⟩ := cell_row5e r3
        clear r3 cA hw1
        go_wp2
        go_ret
        exact ⟨_, rfl, t', bs', lst', st3, fr0, .inl ⟨rfl, hs3⟩⟩
      · clear cA hw1
        go_wp2
        go_ret
        exact ⟨_, rfl, t', bs', lst', st3, fr0, .inr ⟨rfl, hs3⟩⟩

end Go.Proofs.YtpjgdbeekmoedaaGreatDoor
