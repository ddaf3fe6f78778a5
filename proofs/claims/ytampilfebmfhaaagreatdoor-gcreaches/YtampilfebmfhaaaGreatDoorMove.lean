/- move: an object's words go over; the marks, the neighbours. -/
import Derived.Test.YtampilfebmfhaaaGreatDoorDrop
import Derived.Deep.RegionHeld3
import Derived.Laws.CopyRow
namespace Go.Proofs.YtampilfebmfhaaaGreatDoor
open Go.RowKit

variable {n₀ b : Nat} {vw vb : Value} {w : World} {A : Ar}

/-- n words from 'from' on are laid over those from 'to' on. -/
def slide (ws : List Nat) (to from_ n : Nat) : List Nat := ws.take to ++ ((ws.drop from_).take n ++ ws.drop (to + n))

theorem slide_length (ws : List Nat) (to from_ n : Nat) (h1 : to ≤ from_) (h2 : from_ + n ≤ ws.length) : (slide ws to from_ n).length = ws.length := by
  simp [slide]; omega

theorem step_copy_at {P : Program} {ops : Array Oper} {o : Oper} {a : Act} {w : World} {K : Act → World → Prop} {Q : Exit → Act → World → Prop} {E : Prop} (hgd : o.guard = none) (d s : Operand) (dT sT : TypeId)
    (ho : o.op = .call { callee := .builtin .copy, args := #[d, s], argTypes := #[dT, sT] }) (elem : TypeId) (hu : P.underlying dT = some (.slice elem)) (hsz : (P.info? elem).map (·.size) = some 1)
    (g off : Nat) (ad : Addr) (dLen dCap sLen sCap : Nat) (hd : a.eval d = .slice (some ⟨g, off, none⟩) dLen dCap) (hs : a.eval s = .slice (some ad) sLen sCap)
    (cur : Array Value) (t : TypeId) (hg : w.heap[g]? = some (.cells cur t (0, 0))) (cs : List Value) (hn : cs.length = Nat.min sLen dLen)
    (hsrc : ∀ j v, cs[j]? = some v → w.cell? (ad.add j) = some v)
    (hfit : off + cs.length ≤ cur.size) (h1 : ∀ v ∈ cs, v.oneCell' = true)
    (h : ∀ w', Hid (w' = w.setRow g (cur.toList.take off ++ cs ++ cur.toList.drop (off + cs.length)).toArray) → K (a.put o.dst (goInt cs.length)) w') :
    if Region.wanted o (yielded ops a.tmps) = true then Oper.wp P o a w K Q else E := by
  have hw : Region.wanted o (yielded ops a.tmps) = true := by simp [Region.wanted, hgd]
  rw [if_pos hw]
  have hrun := run_copy_row (P := P) w dT sT o.type elem g off dLen dCap ad sLen sCap cur t cs hu hsz hg hn hsrc hfit h1
  have hK := h _ rfl
  simp only [List.append_assoc] at hrun hK
  unfold Oper.wp
  simp [execOp, ho, resolve, invoke, builtin, hd, hs, hrun, Result.andThen]
  exact hK

theorem IsAr.copied {g c to from_ n : Nat} (h : IsAr n₀ b (.slice (some ⟨g, 0, none⟩) A.ws.length c) vb w A) {cur : Array Value} (hg : w.heap[g]? = some (.cells cur 71 (0, 0))) (h1 : to ≤ from_) (h2 : from_ + n ≤ A.ws.length) {w' : World}
    (hw : w' = w.setRow g (cur.toList.take to ++ (A.ws.map wv |>.drop from_ |>.take n) ++ cur.toList.drop (to + (A.ws.map wv |>.drop from_ |>.take n).length)).toArray) :
    IsAr n₀ b (.slice (some ⟨g, 0, none⟩) A.ws.length c) vb w' { A with ws := slide A.ws to from_ n } ∧ Step b (.slice (some ⟨g, 0, none⟩) A.ws.length c) vb w (.slice (some ⟨g, 0, none⟩) A.ws.length c) vb w' := by
  have hgb : g ≠ b := fun e => h.nw (by rw [e]; rfl)
  have hgr : w.grownBy w' (some g) := by
    rw [hw]; exact ⟨rfl, rfl, rfl, by simp [World.setRow], fun k _ hk => setRow_other w g k _ (fun e => hk (by rw [e]))⟩
  have hl := slide_length A.ws to from_ n h1 h2
  refine ⟨⟨h.base, (hgr.block b h.lt (fun e => hgb (by simpa using e.symm))).trans h.blk, ?_, ?_, h.leb, ?_, h.lim, ?_⟩, ⟨hgr.os, hgr.tape, hgr.output, hgr.size, fun k hk _ hwk _ => hgr.block k hk hwk, fun _ h => .inl h, fun _ h => .inl h⟩⟩
  · rcases h.rw.2 with ⟨h', _⟩ | ⟨g', cap, cur', h', hb, hg', hc1, hc2, hc3, hc4⟩
    · simp at h'
    · simp only [Value.slice.injEq, Option.some.injEq, Addr.mk.injEq, and_true, true_and] at h'
      obtain ⟨rfl, rfl⟩ := h'
      rw [hg] at hg'
      simp only [Option.some.injEq, Obj.cells.injEq, and_true] at hg'
      subst hg'
      simp only [Nat.mul_one] at hc3 hc4
      dsimp only
      rw [hl]
      refine ⟨by simp [hl], .inr ⟨g, c, _, rfl, hb, by rw [hw]; exact setRow_heap w g cur _ 71 _ hg, hc1, hc2, ?_, ?_⟩⟩
      · simp; omega
      · have e1 : cur.toList.take to = (A.ws.map wv).take to := by rw [← hc4, List.take_take]; congr 1; omega
        have e2 : ((cur.toList.drop (to + ((A.ws.map wv).drop from_ |>.take n).length))).take (A.ws.length - (to + n)) = (A.ws.map wv).drop (to + n) := by
          rw [show (to + ((A.ws.map wv).drop from_ |>.take n).length) = to + n by simp; omega]
          rw [← hc4, List.drop_take]
        simp only [Nat.mul_one]
        rw [e1, List.append_assoc]
        simp only [slide, List.map_append, List.map_take, List.map_drop]
        rw [List.take_append, List.take_append]
        have l1 : ((A.ws.map wv).take to).length = to := by simp; omega
        have l2 : (((A.ws.map wv).drop from_).take n).length = n := by simp; omega
        rw [l1, l2, List.take_of_length_le (by rw [l1]; omega), List.take_of_length_le (l := ((A.ws.map wv).drop from_).take n) (by rw [l2]; omega)]
        rw [l2] at e2
        rw [show A.ws.length - to - n = A.ws.length - (to + n) by omega, e2]
  · exact h.rb.kept hgr (.inr (h.nwb (k := g) rfl))
  · dsimp only; rw [hl]; exact h.le
  · intro x hx
    refine h.val x ?_
    simp only [slide] at hx
    rcases List.mem_append.1 hx with h' | h'
    · exact List.mem_of_mem_take h'
    · rcases List.mem_append.1 h' with h' | h'
      · exact List.mem_of_mem_drop (List.mem_of_mem_take h')
      · exact List.mem_of_mem_drop h'

theorem IsAr.rowW {g c : Nat} (h : IsAr n₀ b (.slice (some ⟨g, 0, none⟩) A.ws.length c) vb w A) : ∃ cur, w.heap[g]? = some (.cells cur 71 (0, 0)) ∧ cur.size = c := by
  rcases h.rw.2 with ⟨h', _⟩ | ⟨g', cap, cur', h', hb, hg', hc1, hc2, hc3, hc4⟩
  · simp at h'
  · simp only [Value.slice.injEq, Option.some.injEq, Addr.mk.injEq, and_true, true_and] at h'
    obtain ⟨rfl, rfl⟩ := h'
    exact ⟨cur', hg', by simpa using hc3⟩

theorem IsAr.capW {g c : Nat} (h : IsAr n₀ b (.slice (some ⟨g, 0, none⟩) A.ws.length c) vb w A) : A.ws.length ≤ c := by
  obtain ⟨_, _, hcc, h1, _⟩ := IsAr.row_form h.rw
  simp only [Value.slice.injEq] at hcc
  omega

/-- The arena behind 'move'. -/
def moveA (A : Ar) (L : List Nat) (stays : Option Nat) (from_ to : Nat) (x : Nat) : Ar :=
  let A3 : Ar := { A with ws := slide A.ws to from_ (fld x 0 + 1), bs := (clr A.bs (L.takeWhile (fun y => decide (some y ≠ stays)))).set to true }
  tieA (tieA A3 stays (some to)) (some to) (bhd x)

set_option maxRecDepth 20000 in
set_option maxHeartbeats 4000000 in
theorem move_in (h : IsAr n₀ b vw vb w A) (hl : A.bs.length = A.ws.length) (stays : Option Nat) (from_ to x : Nat) (L : List Nat) (hx : A.ws[from_]? = some x) (hL : BackOf A.ws (some from_) L)
    (hto : to ≤ from_) (hend : from_ + 1 + fld x 0 ≤ A.ws.length) (hst : ∀ i, stays = some i → i < to) (hnx : ∀ j, bhd x = some j → from_ < j ∧ j < A.ws.length) :
    Calls Tryz.prog 183 #[.pointer (some ⟨b, 0, none⟩), .int .i64 (optI stays), .int .i64 from_, .int .i64 to] w fun e w' => e = .returned (.tuple #[]) ∧
      IsAr n₀ b vw vb w' (moveA A L stays from_ to x) ∧ Step b vw vb w vw vb w' := by
  have hbeh := behind_in h from_ x hx
  have hdr := drop_in h hl (some from_) stays L hL
  have hlt : from_ < A.ws.length := (List.getElem?_eq_some_iff.1 hx).1
  have hle := h.le
  have hlim := h.lim
  obtain ⟨g, c, rfl, _, _⟩ := h.word hx
  have hc1 := h.capW
  have hinf : (Tryz.prog.info? 71).map (·.size) = some 1 := by kernel_rfl
  obtain ⟨D, hD⟩ : ∃ D, clr A.bs (L.takeWhile (fun y => decide (some y ≠ stays))) = D := ⟨_, rfl⟩
  have hDl : D.length = A.bs.length := by rw [← hD]; simp
  rw [hD] at hdr
  have e0 : fld (A.ws.getD from_ 0) 0 = fld x 0 := by simp [List.getD, hx]
  obtain ⟨sz, hsz⟩ : ∃ sz, fld x 0 = sz := ⟨_, rfl⟩
  unfold moveA
  rw [hD]
  rw [hsz] at hend e0 ⊢
  obtain ⟨nx, hnxx⟩ : ∃ nx, bhd x = nx := ⟨_, rfl⟩
  rw [hnxx] at hbeh hnx ⊢
  clear hD hL hnxx hsz
  go_enter Tryz.func183, Tryz.ntmps183
  go_wp2_with (first
    | (go_at_call 193; refine hbeh.mono ?_; clear hbeh; rintro e w' ⟨rfl, rfl⟩)
    | (go_at_call 194; refine hdr.mono ?_; clear hdr; rintro e w1 ⟨rfl, hA1, hS1⟩))
  have hcell := hA1.c1
  have he := endOf_in hA1.drew (some from_) (fun i hi => by cases hi; exact hlt)
  rw [show endAt { A with bs := D } (some from_) = from_ + 1 + sz from by simp only [endAt]; rw [e0]] at he
  obtain ⟨E, hE⟩ : ∃ E, from_ + 1 + sz = E := ⟨_, rfl⟩
  rw [hE] at he
  have HE : Hid (from_ + 1 + sz = E) := hE
  have r1 : from_ < E := by omega
  have r2 : E ≤ A.ws.length := by omega
  have r3 : to ≤ A.ws.length := by omega
  have r4 : from_ ≤ E := by omega
  have r5 : E ≤ c := by omega
  have r6 : to ≤ c := by omega
  clear hE e0 hend
  obtain ⟨cur, hcur, hcsz⟩ := IsAr.rowW (A := { A with bs := D }) hA1
  have hbg : b ≠ g := fun e => hA1.nw (by rw [e]; rfl)
  obtain ⟨cs, hcs⟩ : ∃ cs, ((A.ws.map wv).drop from_).take (sz + 1) = cs := ⟨_, rfl⟩
  have hcl : cs.length = sz + 1 := by have := HE.out; rw [← hcs]; simp; omega
  have s1 : cs.length = Nat.min (E - from_) (A.ws.length - to) := by have := HE.out; show cs.length = min (E - from_) (A.ws.length - to); rw [hcl, Nat.min_def]; split <;> omega
  have s2 : ∀ j v, cs[j]? = some v → w1.drew.cell? ((⟨g, from_, none⟩ : Addr).add j) = some v := by
    intro j v hv
    have hj : j < sz + 1 := by rw [← hcl]; exact (List.getElem?_eq_some_iff.1 hv).1
    rw [Addr.add_lit]
    show w1.cell? ⟨g, from_ + j, none⟩ = some v
    rw [hA1.rw.cellAt (from_ + j) (by have := HE.out; simp only [Nat.mul_one]; omega), ← hv, ← hcs]
    simp [hj]
  have s3 : to + cs.length ≤ cur.size := by have := HE.out; omega
  have s4 : ∀ v ∈ cs, v.oneCell' = true := by
    intro v hv; rw [← hcs] at hv
    obtain ⟨y, _, rfl⟩ := List.mem_map.1 (List.mem_of_mem_drop (List.mem_of_mem_take hv)); rfl
  have hcd : w1.drew.heap[g]? = some (.cells cur 71 (0, 0)) := hcur
  have SS : Hid _ := And.intro s1 (And.intro s2 (And.intro s3 (And.intro s4 (And.intro hcd (And.intro hcl hcs)))))
  clear s1 s2 s3 s4 hcd hcl hcs hcur hcsz
  have q0 : ¬ c = to := by omega
  have q1 : ¬ c = from_ := by omega
  go_region_held3 (fun w' => w'.cell? ⟨b, 1, none⟩ = some (.slice (some ⟨g, 0, none⟩) A.ws.length c)) (first | go_keep | (rw [hw2.out, World.cell?_of_block (a := ⟨b, 1, none⟩) (setRow_other w1.drew g b _ hbg)]; exact hcell))
    ((first
      | (go_at_call 175; refine he.mono ?_; rintro e w' ⟨rfl, rfl⟩)
      | (refine step_copy_at (by rfl) (.tmp 21) (.tmp 30) 83 83 (by rfl) 71 Tryz.underlying83 hinf g to ⟨g, from_, none⟩ _ _ _ _ (by rfl) (by rfl) cur 71 SS.out.2.2.2.2.1 cs SS.out.1 SS.out.2.1 SS.out.2.2.1 SS.out.2.2.2.1 ?_; intro w2 hw2)))
  obtain ⟨_, _, _, _, hcd, hcl, hcs⟩ := SS.out
  obtain ⟨hA2, hS2⟩ := IsAr.copied (A := { A with bs := D }) (w := w1.drew) (to := to) (from_ := from_) (n := sz + 1) hA1.drew hcd hto (by have := HE.out; show from_ + (sz + 1) ≤ A.ws.length; omega) (w' := w2) (by show w2 = _; rw [hcs]; exact hw2.out)
  dsimp only at hA2 hS2
  have hS12 := (show Step b _ vb _ _ vb w1.drew from hS1.drew).trans hS2
  have hsl : (slide A.ws to from_ (sz + 1)).length = A.ws.length := slide_length _ _ _ _ hto (by have := HE.out; omega)
  have htl : to < D.length := by omega
  obtain ⟨g3, c3, hvb, hm1, hm2⟩ := hA2.mark (i := to) (x := D[to]) (by simp)
  obtain ⟨hA3, hS3⟩ := hA2.setMark (i := to) (y := true) hvb
  have hc2 := hA2.c2
  rw [hvb] at hc2
  dsimp only at hc2 hA3
  obtain ⟨old, hold⟩ : ∃ old, w2.cell? ⟨g3, to, none⟩ = some (.bool old) := ⟨_, hm1⟩
  have ht1 := tie_in hA3 stays (some to) (fun i hi => ⟨by have := hst i hi; dsimp only; omega, fun _ => by have := hst i hi; omega⟩) (fun i hi => by cases hi; dsimp only; omega)
  have HS : Hid _ := hS12.trans hS3
  have HW : Hid _ := hsl
  have hlimD : D.length ≤ 1048576 := by omega
  clear hA1 hA2 hA3 hS1 hS2 hS3 hS12 hw2 hcd hcl hcs SS HE he hcell hm1 hvb hsl hl hDl
  go_wp2_with (first
    | (go_at_call 191; refine ht1.mono ?_; clear ht1; rintro e w4 ⟨rfl, hA4, hS4⟩; have ht2 := tie_in hA4 (some to) nx (fun i hi => ⟨by cases hi; rw [tieA_len]; dsimp only; rw [HW.out]; omega, fun hne => by cases hi; cases nx with
        | none => exact (hne rfl).elim
        | some j => have := hnx j rfl; omega⟩) (fun i hi => by have := hnx i hi; rw [tieA_len]; dsimp only; rw [HW.out]; omega))
    | (go_at_call 191; refine ht2.mono ?_; clear ht2; rintro e w5 ⟨rfl, hA5, hS5⟩))
  go_end0
  exact ⟨rfl, hA5, HS.out.trans (hS4.trans hS5)⟩

end Go.Proofs.YtampilfebmfhaaaGreatDoor
