/- move: an object's words go over; the marks, the neighbours. -/
import Derived.Test.YtkombdkhodjckaaDrop
import Derived.Deep.RegionHeld3
import Derived.Laws.CopyRow
namespace Go.Proofs.Ytkombdkhodjckaa
open Go.RowKit

variable {n₀ b : Nat} {vw vb : Value} {w : World} {A : Ar}

/-- n words from 'from' on are laid over those from 'to' on. -/
def slide (ws : List Nat) (to from_ n : Nat) : List Nat := ws.take to ++ ((ws.drop from_).take n ++ ws.drop (to + n))

theorem slide_length (ws : List Nat) (to from_ n : Nat) (h1 : to ≤ from_) (h2 : from_ + n ≤ ws.length) : (slide ws to from_ n).length = ws.length := by
  simp [slide]; omega

theorem step_copy_at {P : Program} {ops : Array Oper} {o : Oper} {a : Act} {w : World} {K : Act → World → Prop} {Q : Exit → Act → World → Prop} {E : Prop} (hgd : o.guard = none) (d s : Operand) (dT sT : TypeId)
    (ho : o.op = .call { callee := .builtin .copy, args := #[d, s], argTypes := #[dT, sT] }) (elem : TypeId) (hu : P.underlying dT = some (.slice elem)) (hsz : (P.info? elem).map (·.size) = some 1)
    (g off : Nat) (ad : Addr) (dLen dCap sLen sCap : Nat) (hd : a.eval d = .slice (some ⟨g, off, none⟩) dLen dCap) (hs : a.eval s = .slice (some ad) sLen sCap)
    (cur : Array Value) (t : TypeId) (hg : w.heap[g]? = some (.cells cur t (0, 0))) (cs : List Value) (hn : cs.length = Nat.min sLen dLen)
    (hsrc : ∀ j v, cs[j]? = some v → w.cell? (ad.add j) = some v)
    (hfit : off + cs.length ≤ cur.size) (h1 : ∀ v ∈ cs, v.oneCell' = true)
    (h : ∀ w', Hid (w' = w.setRow g (cur.toList.take off ++ cs ++ cur.toList.drop (off + cs.length)).toArray) → K (a.put o.dst (goInt cs.length)) w') :
    if Region.wanted o (yielded ops a.tmps) = true then Oper.wp P o a w K Q else E := by
  have hw : Region.wanted o (yielded ops a.tmps) = true := by simp [Region.wanted, hgd]
  rw [if_pos hw]
  have hrun := run_copy_row (P := P) w dT sT o.type elem g off dLen dCap ad sLen sCap cur t cs hu hsz hg hn hsrc hfit h1
  have hK := h _ rfl
  simp only [List.append_assoc] at hrun hK
  unfold Oper.wp
  simp [execOp, ho, resolve, invoke, builtin, hd, hs, hrun, Result.andThen]
  exact hK

theorem IsAr.copied {g c to from_ n : Nat} (h : IsAr n₀ b (.slice (some ⟨g, 0, none⟩) A.ws.length c) vb w A) {cur : Array Value} (hg : w.heap[g]? = some (.cells cur 81 (0, 0))) (h1 : to ≤ from_) (h2 : from_ + n ≤ A.ws.length) {w' : World}
    (hw : w' = w.setRow g (cur.toList.take to ++ (A.ws.map wv |>.drop from_ |>.take n) ++ cur.toList.drop (to + (A.ws.map wv |>.drop from_ |>.take n).length)).toArray) :
    IsAr n₀ b (.slice (some ⟨g, 0, none⟩) A.ws.length c) vb w' { A with ws := slide A.ws to from_ n } ∧ Step b (.slice (some ⟨g, 0, none⟩) A.ws.length c) vb w (.slice (some ⟨g, 0, none⟩) A.ws.length c) vb w' := by
  have hgb : g ≠ b := fun e => h.nw (by rw [e]; rfl)
  have hgr : w.grownBy w' (some g) := by
    rw [hw]; exact ⟨rfl, rfl, rfl, by simp [World.setRow], fun k _ hk => setRow_other w g k _ (fun e => hk (by rw [e]))⟩
  have hl := slide_length A.ws to from_ n h1 h2
  refine ⟨⟨h.base, (hgr.block b h.lt (fun e => hgb (by simpa using e.symm))).trans h.blk, ?_, ?_, h.leb, ?_, h.lim, ?_⟩, ⟨hgr.os, hgr.tape, hgr.output, hgr.size, fun k hk _ hwk _ => hgr.block k hk hwk, fun _ h => .inl h, fun _ h => .inl h⟩⟩
  · rcases h.rw.2 with ⟨h', _⟩ | ⟨g', cap, cur', h', hb, hg', hc1, hc2, hc3, hc4⟩
    · simp at h'
    · simp only [Value.slice.injEq, Option.some.injEq, Addr.mk.injEq, and_true, true_and] at h'
      obtain ⟨rfl, rfl⟩ := h'
      rw [hg] at hg'
      simp only [Option.some.injEq, Obj.cells.injEq, and_true] at hg'
      subst hg'
      simp only [Nat.mul_one] at hc3 hc4
      dsimp only
      rw [hl]
      refine ⟨by simp [hl], .inr ⟨g, c, _, rfl, hb, by rw [hw]; exact setRow_heap w g cur _ 81 _ hg, hc1, hc2, ?_, ?_⟩⟩
      · simp; omega
      · have e1 : cur.toList.take to = (A.ws.map wv).take to := by rw [← hc4, List.take_take]; congr 1; omega
        have e2 : ((cur.toList.drop (to + ((A.ws.map wv).drop from_ |>.take n).length))).take (A.ws.length - (to + n)) = (A.ws.map wv).drop (to + n) := by
          rw [show (to + ((A.ws.map wv).drop from_ |>.take n).length) = to + n by simp; omega]
          rw [← hc4, List.drop_take]
        simp only [Nat.mul_one]
        rw [e1, List.append_assoc]
        simp only [slide, List.map_append, List.map_take, List.map_drop]
        rw [List.take_append, List.take_append]
        have l1 : ((A.ws.map wv).take to).length = to := by simp; omega
        have l2 : (((A.ws.map wv).drop from_).take n).length = n := by simp; omega
        rw [l1, l2, List.take_of_length_le (by rw [l1]; omega), List.take_of_length_le (l := ((A.ws.map wv).drop from_).take n) (by rw [l2]; omega)]
        rw [l2] at e2
        rw [show A.ws.length - to - n = A.ws.length - (to + n) by omega, e2]
  · exact h.rb.kept hgr (.inr (h.nwb (k := g) rfl))
  · dsimp only; rw [hl]; exact h.le
  · intro x hx
    refine h.val x ?_
    simp only [slide] at hx
    rcases List.mem_append.1 hx with h' | h'
    · exact List.mem_of_mem_take h'
    · rcases List.mem_append.1 h' with h' | h'
      · exact List.mem_of_mem_drop (List.mem_of_mem_take h')
      · exact List.mem_of_mem_drop h'

theorem IsAr.rowW {g c : Nat} (h : IsAr n₀ b (.slice (some ⟨g, 0, none⟩) A.ws.length c) vb w A) : ∃ cur, w.heap[g]? = some (.cells cur 81 (0, 0)) ∧ cur.size = c := by
  rcases h.rw.2 with ⟨h', _⟩ | ⟨g', cap, cur', h', hb, hg', hc1, hc2, hc3, hc4⟩
  · simp at h'
  · simp only [Value.slice.injEq, Option.some.injEq, Addr.mk.injEq, and_true, true_and] at h'
    obtain ⟨rfl, rfl⟩ := h'
    exact ⟨cur', hg', by simpa using hc3⟩

theorem IsAr.capW {g c : Nat} (h : IsAr n₀ b (.slice (some ⟨g, 0, none⟩) A.ws.length c) vb w A) : A.ws.length ≤ c := by
  obtain ⟨_, _, hcc, h1, _⟩ := IsAr.row_form h.rw
  simp only [Value.slice.injEq] at hcc
  omega

/-- The arena behind 'move'. -/
def moveA (A : Ar) (L : List Nat) (stays : Option Nat) (from_ to : Nat) (x : Nat) : Ar :=
  let A3 : Ar := { A with ws := slide A.ws to from_ (fld x 0 + 1), bs := (clr A.bs (L.takeWhile (fun y => decide (some y ≠ stays)))).set to true }
  tieA (tieA A3 stays (some to)) (some to) (bhd x)

end Go.Proofs.Ytkombdkhodjckaa
