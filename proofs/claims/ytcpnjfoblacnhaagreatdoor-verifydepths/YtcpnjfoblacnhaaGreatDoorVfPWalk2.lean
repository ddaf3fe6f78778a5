/- The program's walk: Pop, tell, take. -/
import Derived.Test.YtcpnjfoblacnhaaGreatDoorVfPWalk
namespace Go.Proofs.YtcpnjfoblacnhaaGreatDoor
set_option linter.unusedVariables false
set_option linter.unusedSimpArgs false
open Go.RowKit

variable {w : World}

theorem NumRow.take {base g c : Nat} {l : List Int} (h : NumRow base g c l w) {n : Nat} (hn : n ≤ l.length) : w.ownsRow base 3 1 (.slice (some ⟨g, 0, none⟩) n c) n ((l.take n).map iv) := by
  rcases h.2 with ⟨e, _⟩ | ⟨g', cap, cur, e, hb, hg, h1, hm, h2, h3⟩
  · simp at e
  · simp at e
    obtain ⟨rfl, rfl⟩ := e
    simp at h2 h3
    refine ⟨by simp [hn], .inr ⟨g, c, cur, rfl, hb, hg, by omega, hm, by simpa using h2, ?_⟩⟩
    have : cur.toList.take n = (cur.toList.take l.length).take n := by rw [List.take_take, Nat.min_eq_left hn]
    rw [Nat.mul_one, this, h3, List.map_take]

set_option maxRecDepth 20000 in
set_option maxHeartbeats 2000000 in
theorem ppop_in {base bw gt ct g c n : Nat} {told m : List Int} (h : Wk w base bw gt ct told (.slice (some ⟨g, 0, none⟩) m.length c) m) (hl : m.length = n + 1) (hl2 : m.length ≤ 1048576) :
    Calls Tryz.prog 214 #[.pointer (some ⟨bw, 1, none⟩)] w fun e w' => e = .returned (.iface 3 (.int .i64 (m.getD n 0))) ∧ Wk w' base bw gt ct told (.slice (some ⟨g, 0, none⟩) (m.take n).length c) (m.take n) ∧ Fr bw gt (.slice (some ⟨g, 0, none⟩) m.length c) (.slice (some ⟨g, 0, none⟩) (m.take n).length c) w w' := by
  obtain ⟨⟨c0, c1⟩, ⟨f0, f1⟩⟩ := cell_row2 h.tb
  have r0 := (h.qh rfl).row.at (getD_int (l := m) (i := n) (by omega))
  have HH : Hid _ := h
  have hcap : m.length ≤ c := by
    obtain ⟨p, c', e, h1, _⟩ := row_form h.qr
    simp at e
    omega
  have htl : (m.take n).length = n := by simp; omega
  have HT : Hid _ := (h.qh rfl).row.take (n := n) (by omega)
  rw [htl]
  have HTL : Hid _ := htl
  generalize m.getD n 0 = x at r0 ⊢
  have HML : Hid _ := hl
  rw [hl] at c1 ⊢
  have hn' : (n : Int) < (n : Int) + 1 := by omega
  have hn20 : n < 1048576 := by omega
  have hnc : n + 1 ≤ c := by omega
  clear h htl hl hl2 hcap
  go_enter Tryz.func214, Tryz.ntmps214
  go_wp2
  go_ret
  have h := HH.out
  have hgb : g ≠ bw := fun e => h.nv (by rw [e]; rfl)
  refine ⟨rfl, ⟨?_, h.tr.kept (heap_setCell_other w ⟨bw, 1, none⟩ gt _ (Ne.symm h.ne)), ?_, h.ap, h.bs⟩, ?_⟩
  · have := heap_setCell_same w bw 1 _ _ (.slice (some ⟨g, 0, none⟩) n c) h.tb
    simpa using this
  · rw [HTL.out]
    exact row_kept HT.out (fun k e => by simp [Value.ownBlock] at e; subst e; exact heap_setCell_other w ⟨bw, 1, none⟩ g _ hgb)
  · exact ⟨rfl, rfl, rfl, by simp [World.setCell], fun k hk h1 h2 h3 => heap_setCell_other w ⟨bw, 1, none⟩ k _ h1, fun x hx => .inl hx⟩

/-- What Pop comes to. -/
def PopR (base bw gt ct g c : Nat) (told m : List Int) (w w' : World) : Prop :=
  ∃ r, m.Perm (m.getD 0 0 :: r) ∧ HpN r r.length ∧ Wk w' base bw gt ct told (.slice (some ⟨g, 0, none⟩) r.length c) r ∧ Fr bw gt (.slice (some ⟨g, 0, none⟩) m.length c) (.slice (some ⟨g, 0, none⟩) r.length c) w w'

set_option maxRecDepth 20000 in
set_option maxHeartbeats 2000000 in
theorem hpop_in {base bw gt ct g c n : Nat} {told m : List Int} (h : Wk w base bw gt ct told (.slice (some ⟨g, 0, none⟩) m.length c) m) (hl : m.length = n + 1) (hl2 : m.length ≤ 1048576) (hp : HpN m m.length) :
    Calls Tryz.prog 150 #[.iface 251 (.pointer (some ⟨bw, 1, none⟩))] w fun e w' => e = .returned (.iface 3 (.int .i64 (m.getD 0 0))) ∧ PopR base bw gt ct g c told m w w' := by
  have hc := (h.qh rfl).cell
  have hml := m_len hc
  have hms := m_swap hc
  have H1 := plen_in (w := w) (some ⟨g, 0, none⟩) m.length c
  have H2 : Calls Tryz.prog 213 #[.slice (some ⟨g, 0, none⟩) m.length c, .int .i64 (0 : Int), .int .i64 n] w fun e w' => e = .returned (.tuple #[]) ∧ NumRow base g c (swp m 0 n) w' ∧ But2 g g w w' := pswap_in (h.qh rfl).row (i := 0) (j := n) (by omega) (by omega)
  have hdn := downI_pop hp hl
  have hsl := swp_len m 0 n
  have H3 := fun (W : World) (hr : NumRow base g c (swp m 0 n) W) (hb : But2 g g w W) => down_in ((h.qh rfl).swap hr hb) (n := n) (by omega) (by omega) hdn
  have hm4 := fun (W : World) => m_pop W ⟨bw, 1, none⟩
  have HH : Hid _ := h
  have HS : Hid _ := hsl
  have HL : Hid _ := hl
  have hn20 : n < 1048576 := by omega
  rw [hl] at H1 H2 hml hms
  clear h hdn hl hl2 hsl hc hp
  go_enter Tryz.func150, Tryz.ntmps150
  go_wp2_with (first
    | (go_at_call 211; (with_reducible refine H1.mono ?_); clear H1; rintro e w0 ⟨rfl, rfl⟩)
    | (go_at_call 213; (with_reducible refine H2.mono ?_); clear H2; rintro e w1 ⟨rfl, hr1, hb1⟩)
    | (go_at_call 179; (with_reducible refine (H3 _ hr1 hb1).mono ?_); clear H3; rintro e w2 ⟨b2, rfl, m2, hp2, hh2, hk2, hq2, hb2⟩; have hlm : m2.length = n + 1 := (by rw [hp2.length_eq, HS.out, HL.out]); have hwk := HH.out.of_qh (by rw [hlm, HL.out]) hq2 (hb1.trans hb2); have H4 := ppop_in hwk hlm (by omega); have HW : Hid _ := hwk; have HM : Hid _ := hlm; clear hwk hlm)
    | (go_at_call 214; (with_reducible refine H4.mono ?_); clear H4; rintro e w3 ⟨rfl, hw3, hf3⟩))
  go_ret
  have e1 : m2.getD n 0 = m.getD 0 0 := by
    rw [hk2 n (Nat.le_refl _), swp_at (by have := HL.out; omega) (by have := HL.out; omega), if_pos rfl]
  refine ⟨by show Ending.returned (.iface 3 (.int .i64 (m2[n]?.getD 0))) = _; rw [← List.getD_eq_getElem?_getD, e1], m2.take n, pop_perm HL.out hp2 (hk2 n (Nat.le_refl _)), hpN_take hh2 (by have := HM.out; omega), hw3, ?_⟩
  exact (Fr.of_but (hb1.trans hb2)).trans hf3

theorem nodup_le : ∀ {n : Nat} {q : List Int}, q.Nodup → (∀ x ∈ q, 0 ≤ x ∧ x < n) → q.length ≤ n
  | 0, q, _, h => by
    cases q with
    | nil => simp
    | cons x r => have := h x (by simp); omega
  | n + 1, q, hn, h => by
    have h1 := nodup_le (n := n) (q := q.erase n) (hn.erase _) (fun x hx => by
      have := (hn.mem_erase_iff).1 hx
      have h2 := h x this.2
      have h3 : x ≠ (n : Int) := this.1
      omega)
    by_cases hm : (n : Int) ∈ q
    · rw [List.length_erase_of_mem hm] at h1; omega
    · rw [List.erase_of_not_mem hm] at h1; omega

theorem Qi.len {n : Nat} {told : List Int} {taken : List Bool} {q : List Int} (h : Qi n told taken q) : q.length ≤ n := nodup_le h.nod h.nat

/-- What tell comes to. -/
def TellP (base bw gt ct n : Nat) (told : List Int) (taken : List Bool) (v : Value) (k : Nat) (d : Int) (b : Bool) (w w' : World) : Prop :=
  ∃ told' v' q', Wk w' base bw gt ct told' v' q' ∧ Fr bw gt v v' w w' ∧ Qi n told' taken q' ∧ (∀ k, -1 ≤ told'.getD k (-1)) ∧ ((b = true ∧ tellP told k d = some told') ∨ (b = false ∧ tellP told k d = none))

theorem Wk.tset {base bw gt ct : Nat} {told : List Int} {v : Value} {q : List Int} (h : Wk w base bw gt ct told v q) {k : Nat} (hk : k < told.length) (d : Int) : Wk (w.setCell ⟨gt, k, none⟩ (.int .i64 d)) base bw gt ct (told.set k d) v q := by
  refine ⟨?_, h.tr.set hk d, row_kept h.qr (fun x e => heap_setCell_other w ⟨gt, k, none⟩ x _ (fun e2 => h.ap (by have e3 : x = gt := e2; rw [← e3]; exact e))), h.ap, h.bs⟩
  rw [heap_setCell_other w ⟨gt, k, none⟩ bw _ h.ne, List.length_set]
  exact h.tb

set_option maxRecDepth 20000 in
set_option maxHeartbeats 2000000 in
theorem ptell_in {base bw gt ct n : Nat} {told : List Int} {taken : List Bool} {v : Value} {q : List Int} (h : Wk w base bw gt ct told v q) (hq : Qi n told taken q) (hn : n ≤ 16384) (hm : ∀ k, -1 ≤ told.getD k (-1)) (k : Nat) (hk : k < n) (d : Int) (hd : 0 ≤ d) :
    Calls Tryz.prog 86 #[.pointer (some ⟨bw, 0, none⟩), .int .i64 k, .int .i64 d] w fun e w' => ∃ b, e = .returned (.bool b) ∧ TellP base bw gt ct n told taken v k d b w w' := by
  have hkl : k < told.length := by rw [hq.tl]; exact hk
  obtain ⟨x, hx⟩ : ∃ x, told[k]? = some x := ⟨told[k], by simp⟩
  have hxD : told.getD k (-1) = x := by rw [List.getD_eq_getElem?_getD, hx]; rfl
  have hx1 := hm k
  rw [hxD] at hx1
  have hk' : (k : Int) < (told.length : Int) := by omega
  obtain ⟨⟨c0, c1⟩, -⟩ := cell_row2 h.tb
  have r0 := h.tr.at hx
  have fr := h.tr.frozen k
  have HH : Hid _ := And.intro h (And.intro hq hm)
  by_cases h0 : x = -1
  · subst h0
    have hql := hq.len
    have h1 := h.tset hkl d
    have H1 := hpush_in h1 (by omega) hq.hp (k : Int)
    have TP : Hid (tellP told k d = some (told.set k d)) := by
      show tellP told k d = _
      unfold tellP; rw [hxD, if_neg (by omega)]
    have HX : Hid _ := hxD
    have HK : Hid (k < told.length) := hkl
    clear h hq hm hxD hx h1 hql hkl
    go_enter Tryz.func86, Tryz.ntmps86
    go_wp2_with (first
      | (go_at_call 149; (with_reducible refine H1.mono ?_); clear H1; rintro e w2 ⟨rfl, g, c, m, hmp, hmh, hw2, hf2⟩; obtain ⟨⟨e0, e1⟩, -⟩ := cell_row2 hw2.tb; have er := hw2.tr.at (j := k) (x := d) (by rw [List.getElem?_set]; simp [HK.out]); have e2 : (k : Int) < ((told.set k d).length : Int) := (by rw [List.length_set]; exact hk'); rw [List.length_set] at e0 e2))
    go_ret
    obtain ⟨h, hq, hm⟩ := HH.out
    refine ⟨_, rfl, told.set k d, _, m, hw2, ?_, hq.push hk hd (by rw [HX.out]; omega) hmp hmh, fun j => ?_, .inl ⟨by simp, TP.out⟩⟩
    · have hf0 : Fr bw gt v v w (w.setCell ⟨gt, k, none⟩ (.int .i64 d)) := ⟨rfl, rfl, rfl, by simp [World.setCell], fun j hj j1 j2 j3 => heap_setCell_other w ⟨gt, k, none⟩ j _ j2, fun g hg => .inl hg⟩
      exact hf0.trans hf2
    · rw [getD_set_if' _ _ _ _ HK.out]
      split
      · omega
      · exact hm j
  · have h0' : (x == -1) = false := by simpa using h0
    have TP : Hid ((decide (x = d) = true ∧ tellP told k d = some told) ∨ (decide (x = d) = false ∧ tellP told k d = none)) := by
      show _ ∨ _
      unfold tellP
      rw [hxD]
      by_cases e : x = d
      · refine .inl ⟨by simpa using e, ?_⟩
        rw [if_neg (by omega), hq.same hk (by rw [hxD]; exact e)]
      · refine .inr ⟨by simpa using e, ?_⟩
        rw [if_pos ⟨by omega, e⟩]
    clear h hq hm hxD hx hkl
    go_enter Tryz.func86, Tryz.ntmps86
    go_wp2
    go_ret
    obtain ⟨h, hq, hm⟩ := HH.out
    exact ⟨_, rfl, told, v, q, h, Fr.of_below (Below.refl _ _), hq, hm, by have := TP.out; simpa using this⟩

/-- What take comes to. -/
def TakeP (base bw gt ct n g c : Nat) (told : List Int) (taken : List Bool) (q : List Int) (pc : Nat) (w w' : World) : Prop :=
  pc < n ∧ taken[pc]? = some false ∧ 0 ≤ told.getD pc (-1) ∧ (∀ k, k < pc → ¬ Opn told taken k) ∧ ∃ r, Wk w' base bw gt ct told (.slice (some ⟨g, 0, none⟩) r.length c) r ∧ Fr bw gt (.slice (some ⟨g, 0, none⟩) q.length c) (.slice (some ⟨g, 0, none⟩) r.length c) w w' ∧ Qi n told (taken.set pc true) r

set_option maxRecDepth 20000 in
set_option maxHeartbeats 2000000 in
theorem ptake_in {base bw gt ct n g c : Nat} {told : List Int} {taken : List Bool} {q : List Int} (h : Wk w base bw gt ct told (.slice (some ⟨g, 0, none⟩) q.length c) q) (hq : Qi n told taken q) (hn : n ≤ 16384) (h0 : 0 < q.length) :
    Calls Tryz.prog 87 #[.pointer (some ⟨bw, 0, none⟩)] w fun e w' => ∃ pc : Nat, e = .returned (.int .i64 pc) ∧ TakeP base bw gt ct n g c told taken q pc w w' := by
  have hql := hq.len
  have H1 := hpop_in h (n := q.length - 1) (by omega) (by omega) hq.hp
  have hta := assert_int (q.getD 0 0)
  generalize hx : q.getD 0 0 = x at H1 hta
  have HX : Hid _ := hx
  have HQ : Hid _ := hq
  clear hq h hx hql
  go_enter Tryz.func87, Tryz.ntmps87
  go_wp2_with (first
    | (go_at_call 150; (with_reducible refine H1.mono ?_); clear H1; rintro e w1 ⟨rfl, r, hr, hh, hw1, hf1⟩))
  go_ret
  obtain ⟨pc, e, p1, p2, p3, p4, p5⟩ := HQ.out.pop h0 hr hh
  refine ⟨pc, ?_, p1, p2, p3, p4, r, hw1, hf1, p5⟩
  have : x = (pc : Int) := by rw [← HX.out]; exact e
  subst this
  rfl

end Go.Proofs.YtcpnjfoblacnhaaGreatDoor
