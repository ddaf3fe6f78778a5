/- The document's Holds. -/
import Derived.Test.YtampilfebmfhaaaGreatDoorRgPairs2
import Derived.Deep.AppendLies
namespace Go.Proofs.YtampilfebmfhaaaGreatDoor
set_option linter.unusedVariables false
set_option linter.unusedSimpArgs false
open Go.RowKit

variable {n₀ br all en : Nat} {vo : Value} {w : World} {R : List (Ob × Value)}

/-- Where in the list the objects stand that an object holds. -/
def holdI (R : List (Ob × Value)) (o : Ob) : List Nat := (links (R.map Prod.fst) o).map (fun y => (findR y.to R).toNat)

def leadG (R : List (Ob × Value)) (ws : List Nat) (i : Nat) : List Nat := if Leads (R.map Prod.fst) (ws.getD i 0) (ws.getD (i + 1) 0 : Nat) then [(findR (ws.getD (i + 1) 0 : Nat) R).toNat] else []

theorem prs_pix (R : List (Ob × Value)) (ws ws' : List Nat) : ∀ (l : List Nat) (i : Nat), l = ws'.drop i → (∀ j, j < ws'.length → ws'[j]? = ws[j]?) →
    (prs (R.map Prod.fst) i l).map (fun y => (findR y.to R).toNat) = (pix i l).flatMap (leadG R ws)
  | [], _, _, _ => rfl
  | [_], _, _, _ => rfl
  | k :: n :: r, i, hl, hw => by
    have h0 : ws'[i]? = some k := by have := congrArg (·[0]?) hl; simpa using this.symm
    have h1 : ws'[i + 1]? = some n := by have := congrArg (·[1]?) hl; simpa using this.symm
    have l0 : i < ws'.length := (List.getElem?_eq_some_iff.1 h0).1
    have l1 : i + 1 < ws'.length := (List.getElem?_eq_some_iff.1 h1).1
    have e0 : ws.getD i 0 = k := by rw [List.getD, ← hw i l0, h0]; rfl
    have e1 : ws.getD (i + 1) 0 = n := by rw [List.getD, ← hw (i + 1) l1, h1]; rfl
    have hr : r = ws'.drop (i + 2) := by
      have := congrArg (List.drop 2) hl
      simpa [List.drop_drop] using this
    have ih := prs_pix R ws ws' r (i + 2) hr hw
    simp only [prs, pix, List.flatMap_cons, List.map_append, ih]
    congr 1
    unfold leadG
    rw [e0, e1]
    split <;> simp

theorem pix_lt (ws' : List Nat) : ∀ (l : List Nat) (i : Nat), l = ws'.drop i → ∀ j ∈ pix i l, j + 1 < ws'.length
  | [], _, _, j, h => by simp [pix] at h
  | [_], _, _, j, h => by simp [pix] at h
  | k :: n :: r, i, hl, j, h => by
    have h1 : ws'[i + 1]? = some n := by have := congrArg (·[1]?) hl; simpa using this.symm
    have l1 : i + 1 < ws'.length := (List.getElem?_eq_some_iff.1 h1).1
    have hr : r = ws'.drop (i + 2) := by
      have := congrArg (List.drop 2) hl
      simpa [List.drop_drop] using this
    rcases List.mem_cons.1 h with rfl | h
    · exact l1
    · exact pix_lt ws' r (i + 2) hr j h

theorem pairsI_lt (o : Ob) : ∀ j ∈ pairsI o, j + 1 < o.ws.length := by
  intro j hj
  unfold pairsI at hj
  split at hj
  · exact pix_lt o.ws _ 0 (by simp) j hj
  · split at hj
    · exact pix_lt o.ws _ 1 rfl j hj
    · split at hj
      · have := pix_lt (o.ws.take 2) _ 0 (by simp) j hj
        simp at this; omega
      · simp at hj

theorem findR_cases (n : Int) : ∀ (R : List (Ob × Value)), findR n R = -1 ∨ ∃ q : Nat, findR n R = q ∧ q < R.length
  | [] => .inl rfl
  | x :: r => by
    unfold findR
    split
    · exact .inr ⟨0, rfl, by simp⟩
    · rcases findR_cases n r with e | ⟨q, e, hq⟩
      · rw [if_pos e]; exact .inl rfl
      · rw [if_neg (by omega), e]; exact .inr ⟨q + 1, by simp, by simp; omega⟩

theorem itemI_cases (R : List (Ob × Value)) (o : Ob) : itemI R o = -1 ∨ ∃ q : Nat, itemI R o = q ∧ q < R.length := by
  unfold itemI
  split
  · split
    · exact findR_cases _ R
    · exact .inl rfl
  · exact .inl rfl

theorem holdI_eq (R : List (Ob × Value)) (o : Ob) : holdI R o = (if 0 ≤ itemI R o then [(itemI R o).toNat] else []) ++ (pairsI o).flatMap (leadG R o.ws) := by
  unfold holdI links
  by_cases h45 : o.kind = 4 ∨ o.kind = 5
  · rw [if_pos h45]
    have e1 : pairsI o = [] := by unfold pairsI; rw [if_neg (by omega), if_neg (by omega), if_neg (by omega)]
    have e2 : itemI R o = (match itemsL (R.map Prod.fst) o.ws with | y :: _ => findR y.to R | [] => -1) := by unfold itemI; rw [if_pos h45]; cases itemsL (R.map Prod.fst) o.ws <;> rfl
    rw [e1, e2]
    unfold itemsL
    split
    · rename_i y hy
      split
      · rename_i hI
        simp only [List.map_cons, List.map_nil, List.flatMap_nil, List.append_nil]
        rw [if_pos]
        obtain ⟨_, q, hq, e, _⟩ := hI
        obtain ⟨z, hz, rfl⟩ := List.mem_map.1 hq
        rcases findR_cases ((y - 1 : Nat) : Int) R with e3 | ⟨t, e3, _⟩
        · exfalso
          have : ∀ (l : List (Ob × Value)), z ∈ l → findR ((y - 1 : Nat) : Int) l ≠ -1 := by
            intro l
            induction l with
            | nil => intro h; cases h
            | cons u r ih =>
              intro h
              unfold findR
              split
              · simp
              · rename_i hne
                rcases List.mem_cons.1 h with rfl | h
                · exact (hne e).elim
                · have := ih h
                  rw [if_neg this]
                  rcases findR_cases ((y - 1 : Nat) : Int) r with e4 | ⟨t, e4, _⟩
                  · exact (this e4).elim
                  · omega
          exact this R hz e3
        · omega
      · simp
    · simp
  · rw [if_neg h45]
    have e2 : itemI R o = -1 := by unfold itemI; rw [if_neg h45]
    rw [e2, if_neg (show ¬ (0 : Int) ≤ -1 by omega), List.nil_append]
    unfold pairsI
    by_cases h8 : o.kind = 8
    · rw [if_pos h8, if_pos h8]
      exact prs_pix R o.ws o.ws o.ws 0 (by simp) (fun _ _ => rfl)
    rw [if_neg h8, if_neg h8]
    by_cases h6 : o.kind = 6
    · rw [if_pos h6, if_pos h6]
      exact prs_pix R o.ws o.ws (o.ws.drop 1) 1 rfl (fun _ _ => rfl)
    rw [if_neg h6, if_neg h6]
    by_cases h7 : o.kind = 7
    · rw [if_pos h7, if_pos h7]
      refine prs_pix R o.ws (o.ws.take 2) (o.ws.take 2) 0 (by simp) ?_
      intro j hj
      rw [List.getElem?_take, if_pos (by simp at hj; omega)]
    rw [if_neg h7, if_neg h7]
    rfl

theorem box_after (w : World) (a b c : Value) {w1 : World} (hB : Below (w.alloc (.cells #[a, b, c] 85)).heap.size (w.alloc (.cells #[a, b, c] 85)) w1) :
    w1.heap[w.heap.size]? = some (.cells #[a, b, c] 85 (0, 0)) ∧ w1.cell? ⟨w.heap.size, 0, none⟩ = some a ∧ w1.cell? ⟨w.heap.size, 1, none⟩ = some b ∧ w1.cell? ⟨w.heap.size, 2, none⟩ = some c ∧ Below w.heap.size w w1 := by
  have hb : w1.heap[w.heap.size]? = some (.cells #[a, b, c] 85 (0, 0)) := (hB.block w.heap.size (by simp)).trans (heap_alloc_new w _)
  refine ⟨hb, ?_, ?_, ?_, (below1 w _).trans (hB.mono (by simp))⟩
  · rw [cell_of_row w1 _ 0 _ _ _ hb]; rfl
  · rw [cell_of_row w1 _ 1 _ _ _ hb]; rfl
  · rw [cell_of_row w1 _ 2 _ _ _ hb]; rfl

theorem box_later {w w1 w2 : World} {a b c : Value} (h1 : Below w.heap.size w w1) (hb : w1.heap[w.heap.size]? = some (.cells #[a, b, c] 85 (0, 0))) (hB : Below w1.heap.size w1 w2) :
    w2.heap[w.heap.size]? = some (.cells #[a, b, c] 85 (0, 0)) ∧ w2.cell? ⟨w.heap.size, 0, none⟩ = some a ∧ w2.cell? ⟨w.heap.size, 1, none⟩ = some b ∧ w2.cell? ⟨w.heap.size, 2, none⟩ = some c ∧ Below w.heap.size w w2 := by
  have hb2 : w2.heap[w.heap.size]? = some (.cells #[a, b, c] 85 (0, 0)) := (hB.block w.heap.size (Array.getElem?_eq_some_iff.1 hb).1).trans hb
  refine ⟨hb2, ?_, ?_, ?_, h1.trans (hB.mono h1.size)⟩
  · rw [cell_of_row w2 _ 0 _ _ _ hb2]; rfl
  · rw [cell_of_row w2 _ 1 _ _ _ hb2]; rfl
  · rw [cell_of_row w2 _ 2 _ _ _ hb2]; rfl

theorem held_more {w w1 w2 : World} {a1 a2 a3 a4 : Addr} {v1 v2 v3 v4 : Value} (hB1 : Below w.heap.size w w1) (hB : Below w1.heap.size w1 w2) (c1 : w.cell? a1 = some v1) (c2 : w.cell? a2 = some v2) (c3 : w.cell? a3 = some v3) (c4 : w.cell? a4 = some v4) :
    Below w.heap.size w w2 ∧ w2.cell? a1 = some v1 ∧ w2.cell? a2 = some v2 ∧ w2.cell? a3 = some v3 ∧ w2.cell? a4 = some v4 := by
  have h := hB1.trans (hB.mono hB1.size)
  exact ⟨h, (h.cell (World.block_lt_of_cell? w _ c1)).trans c1, (h.cell (World.block_lt_of_cell? w _ c2)).trans c2, (h.cell (World.block_lt_of_cell? w _ c3)).trans c3, (h.cell (World.block_lt_of_cell? w _ c4)).trans c4⟩

theorem held_drew {w w1 : World} {a1 a2 a3 a4 : Addr} {v1 v2 v3 v4 : Value} (hB : Below w.drew.heap.size w.drew w1) (c1 : w.cell? a1 = some v1) (c2 : w.cell? a2 = some v2) (c3 : w.cell? a3 = some v3) (c4 : w.cell? a4 = some v4) :
    Below w.heap.size w w1 ∧ w1.cell? a1 = some v1 ∧ w1.cell? a2 = some v2 ∧ w1.cell? a3 = some v3 ∧ w1.cell? a4 = some v4 := by
  have h : Below w.heap.size w w1 := ⟨hB.os, hB.tape, hB.output, hB.size, hB.block⟩
  exact ⟨h, (h.cell (World.block_lt_of_cell? w _ c1)).trans c1, (h.cell (World.block_lt_of_cell? w _ c2)).trans c2, (h.cell (World.block_lt_of_cell? w _ c3)).trans c3, (h.cell (World.block_lt_of_cell? w _ c4)).trans c4⟩

/-- What stands while an object's values are gone through. -/
structure HoldS (n₀ br : Nat) (vo : Value) (all en : Nat) (R : List (Ob × Value)) (x : Ob × Value) (gw cw B0 : Nat) (base : List Nat) (pl : Option Addr) (cl : Nat) (W1 : World) (pre : List Nat) (out : Value) (wr : World) : Prop where
  row : wr.ownsRow (B0 + 1) 3 1 out (base ++ pre.flatMap (leadG R x.1.ws)).length ((base ++ pre.flatMap (leadG R x.1.ws)).map pv)
  lrow : wr.ownsRow (B0 + 1) 3 1 (.slice pl (pairsI x.1).length cl) (pairsI x.1).length ((pairsI x.1).map pv)
  dis : ∀ q, out.ownBlock = some q → Value.ownBlock (.slice pl (pairsI x.1).length cl) ≠ some q
  bel : Below (B0 + 1) W1 wr
  box : wr.heap[B0]? = some (.cells #[.int .i64 x.1.at_, .int .u8 x.1.kind, .slice (some ⟨gw, 0, none⟩) x.1.ws.length cw] 85 (0, 0))

section
variable {x : Ob × Value} {gw cw B0 cl : Nat} {base pre : List Nat} {pl : Option Addr} {W1 wr : World} {out : Value}

theorem HoldS.skip (hS : HoldS n₀ br vo all en R x gw cw B0 base pl cl W1 pre out wr) {j : Nat} {w4 : World} (hB : Below wr.heap.size wr w4) (hG : leadG R x.1.ws j = []) : HoldS n₀ br vo all en R x gw cw B0 base pl cl W1 (pre ++ [j]) out w4 := by
  have hlt : B0 < wr.heap.size := (Array.getElem?_eq_some_iff.1 hS.box).1
  refine ⟨?_, IsRf.row_kept hS.lrow (fun k e => hB.block k (hS.lrow.lt k e).2), hS.dis, hS.bel.trans (hB.mono (by omega)), (hB.block B0 hlt).trans hS.box⟩
  have := IsRf.row_kept hS.row (fun k e => hB.block k (hS.row.lt k e).2)
  simpa [hG] using this

theorem HoldS.more (hS : HoldS n₀ br vo all en R x gw cw B0 base pl cl W1 pre out wr) {j q g c : Nat} {w4 w5 : World} {o : Obj} (hB : Below wr.heap.size wr w4)
    (hown : w5.ownsRow (B0 + 1) 3 1 (.slice (some ⟨g, 0, none⟩) ((base ++ pre.flatMap (leadG R x.1.ws)).length + 1) c) ((base ++ pre.flatMap (leadG R x.1.ws)).length + 1) ((base ++ pre.flatMap (leadG R x.1.ws)).map pv ++ [.int .i64 q]))
    (hgrow : (w4.alloc o).grownBy w5 out.ownBlock) (hb : out.ownBlock = some g ∨ g = w4.heap.size + 1) (hG : leadG R x.1.ws j = [q]) :
    HoldS n₀ br vo all en R x gw cw B0 base pl cl W1 (pre ++ [j]) (.slice (some ⟨g, 0, none⟩) ((base ++ pre.flatMap (leadG R x.1.ws)).length + 1) c) w5 := by
  have hlt : B0 < wr.heap.size := (Array.getElem?_eq_some_iff.1 hS.box).1
  have h45 : ∀ k, k < w4.heap.size → some k ≠ out.ownBlock → w5.heap[k]? = w4.heap[k]? := fun k hk hn => (hgrow.block k (by simp; omega) hn).trans (Below.heap_alloc _ _ k hk)
  have hB5 : Below (B0 + 1) wr w5 := by
    have hs4 := hB.size
    refine ((hB.mono (show B0 + 1 ≤ wr.heap.size by omega)).alloc (by omega) o).trans (rbelow_grown hgrow (fun k e => (hS.row.lt k e).1) (by simp; omega))
  refine ⟨?_, ?_, ?_, hS.bel.trans hB5, (hB5.block B0 (by omega)).trans hS.box⟩
  · have e : (base ++ (pre ++ [j]).flatMap (leadG R x.1.ws)) = (base ++ pre.flatMap (leadG R x.1.ws)) ++ [q] := by simp [hG]
    have e' : ((base ++ pre.flatMap (leadG R x.1.ws)) ++ [q]).length = (base ++ pre.flatMap (leadG R x.1.ws)).length + 1 := List.length_append
    rw [e, e', List.map_append]
    exact hown
  · refine IsRf.row_kept (IsRf.row_kept hS.lrow (fun k e => hB.block k (hS.lrow.lt k e).2)) (fun k e => h45 k (by have := (hS.lrow.lt k e).2; have := hB.size; omega) (fun e' => hS.dis k e'.symm e))
  · intro k e e2
    simp [Value.ownBlock] at e
    subst e
    rcases hb with hb | hb
    · exact hS.dis _ hb e2
    · have := (hS.lrow.lt _ e2).2; have := hB.size; omega
end

theorem leadG_len (R : List (Ob × Value)) (ws : List Nat) (i : Nat) : (leadG R ws i).length ≤ 1 := by unfold leadG; split <;> simp

theorem flat_len (R : List (Ob × Value)) (ws : List Nat) : ∀ (l : List Nat), (l.flatMap (leadG R ws)).length ≤ l.length
  | [] => by simp
  | i :: l => by
    have := flat_len R ws l
    have := leadG_len R ws i
    simp only [List.flatMap_cons, List.length_append, List.length_cons]; omega

theorem pix_len : ∀ (l : List Nat) (i : Nat), (pix i l).length ≤ l.length
  | [], _ => by simp [pix]
  | [_], _ => by simp [pix]
  | _ :: _ :: r, i => by have := pix_len r (i + 2); simp [pix]; omega

theorem pairsI_len (o : Ob) : (pairsI o).length ≤ o.ws.length := by
  unfold pairsI
  split
  · exact pix_len _ _
  · split
    · refine Nat.le_trans (pix_len (o.ws.drop 1) 1) (by simp)
    · split
      · refine Nat.le_trans (pix_len (o.ws.take 2) 0) (by simp; omega)
      · simp

set_option maxRecDepth 20000 in
set_option maxHeartbeats 4000000 in
theorem rholds_in (h : IsRf n₀ br vo w all en R) (hs : Srt 0 (R.map Prod.fst)) {x : Ob × Value} (hx : x ∈ R) (h64 : ∀ y ∈ x.1.ws, y < 18446744073709551616) :
    Calls Tryz.prog 124 #[.pointer (some ⟨br, 0, none⟩), agO x] w fun e w' => ∃ p c, e = .returned (.slice p (holdI R x.1).length c) ∧
      w'.ownsRow w.heap.size 3 1 (.slice p (holdI R x.1).length c) (holdI R x.1).length ((holdI R x.1).map pv) ∧ Below w.heap.size w w' := by
  have H1 := fun w' (hB : Below w.heap.size w w') => ritems_in (h.below hB) hs hx h64
  have H2 := fun w' (hB : Below w.heap.size w w') => rpairs_in (h.below hB) hx
  unfold agO at *
  obtain ⟨hw1, hw2⟩ := h.wrds x hx
  obtain ⟨gw, cw, hxv⟩ := wform hw1 hw2
  rw [hxv] at H1 H2 ⊢
  have hB0 := below1 w (.cells #[.int .i64 x.1.at_, .int .u8 x.1.kind, .slice (some ⟨gw, 0, none⟩) x.1.ws.length cw] 85)
  have hwl := (h.bnd x hx).2.1
  have hpl := pairsI_len x.1
  have hu : ∀ o ∈ R.map Prod.fst, o.at_ < 1048576 := fun o ho => by
    obtain ⟨y, hy, rfl⟩ := List.mem_map.1 ho
    exact (h.bnd y hy).1
  obtain ⟨i0, hi, hz0, hz1, hz2⟩ := info_parts info3
  have heq := holdI_eq R x.1
  rcases itemI_cases R x.1 with eI | ⟨qi, eI, hqR⟩
  · rw [eI] at H1 heq
    rw [if_neg (by omega)] at heq
    have HE : Hid _ := heq
    clear heq eI
    go_enter Tryz.func124, Tryz.ntmps124
    go_wp2_with (first
      | (go_at_call 101; refine (H1 _ hB0).mono ?_; clear H1; rintro e w1 ⟨rfl, hB1⟩; obtain ⟨hb1, d0, d1, d2, hB01⟩ := box_after w _ _ _ hB1)
      | (go_at_call 102; refine (H2 _ hB01).mono ?_; clear H2; rintro e w2 ⟨pl, cl, rfl, hlrow, hB2⟩))
    have hB02 : Below w.heap.size w w2 := hB01.trans (hB2.mono hB01.size)
    have hlr : w2.ownsRow (w.heap.size + 1) 3 1 (.slice pl (pairsI x.1).length cl) (pairsI x.1).length ((pairsI x.1).map pv) := row_mono hlrow (by have := hB1.size; simp at this; omega)
    have hstart : HoldS n₀ br vo all en R x gw cw w.heap.size [] pl cl w2 [] (.slice none 0 0) w2 := ⟨World.ownsRow_nil _ _ _ _, hlr, fun q e => by simp [Value.ownBlock] at e, Below.refl _ _, (hB2.block _ (by have := hB1.size; simp at this; omega)).trans hb1⟩
    go_loopw [5, 8] (fun out k wr => ∃ (pre rest : List Nat), k = .int .i64 pre.length ∧ pairsI x.1 = pre ++ rest ∧ HoldS n₀ br vo all en R x gw cw w.heap.size [] pl cl w2 pre out wr) (fun _ k _ => (pairsI x.1).length - (intOf k).toNat)
    case atStart => exact ⟨[], pairsI x.1, rfl, rfl, hstart⟩
    case round =>
      obtain ⟨pre, rest, rfl, hR, hS⟩ := hrel
      have hBr : Below w.heap.size w wr := hB02.trans (hS.bel.mono (by omega))
      cases rest with
      | nil =>
        have hR' : pairsI x.1 = pre := by simpa using hR
        have hq : ¬ ((pre.length : Int) < ((pairsI x.1).length : Int)) := by rw [hR']; omega
        have HR : Hid _ := hR'
        obtain ⟨p1, c1, hv, _, _⟩ := IsAr.row_form hS.row
        have E2 : Hid _ := hv
        clear hR hR' hv hstart
        go_wp2
        go_ret
        have e := E2.out
        refine ⟨p1, c1, ?_, ?_, hBr⟩
        · rw [HE.out, HR.out, ← e]; rfl
        · rw [HE.out, HR.out, ← e]; exact row_mono hS.row (by omega)
      | cons j rest =>
        have hjm : j ∈ pairsI x.1 := by rw [hR]; simp
        have hj1 := pairsI_lt x.1 j hjm
        have hlR : pre.length < (pairsI x.1).length := by rw [hR]; simp
        have hj2 : (j : Int) < (x.1.ws.length : Int) := by omega
        have hj3 : (j : Int) + 1 < (x.1.ws.length : Int) := by omega
        have hj4 : j < x.1.ws.length := by omega
        have hj6 : IntKind.i64.wrap ((j : Int) + 1) = (j : Int) + 1 := by rw [IntKind.wrap_i64]; omega
        have hj7 : (0 : Int) ≤ (j : Int) + 1 := by omega
        have hj5 : j < 1048576 := by omega
        have hlR' : (pre.length : Int) < ((pairsI x.1).length : Int) := by omega
        obtain ⟨k0, hk0⟩ : ∃ k0, x.1.ws[j]? = some k0 := ⟨x.1.ws[j]'(by omega), by simp⟩
        obtain ⟨m0, hm0⟩ : ∃ m0, x.1.ws[j + 1]? = some m0 := ⟨x.1.ws[j + 1]'(by omega), by simp⟩
        have hk64 := h64 k0 (List.mem_of_getElem? hk0)
        have hm64 := h64 m0 (List.mem_of_getElem? hm0)
        have hWr := h.below hBr
        have hrw := (hWr.wrds x hx).1
        rw [hxv] at hrw
        have c1 := row_cell hrw (show (x.1.ws.map wv)[j]? = some (.int .u64 k0) by simp [hk0, wv]) (by omega)
        have c2 := row_cell hrw (show (x.1.ws.map wv)[j + 1]? = some (.int .u64 m0) by simp [hm0, wv]) (by omega)
        have c3 : wr.cell? ⟨w.heap.size, 2, none⟩ = some (.slice (some ⟨gw, 0, none⟩) x.1.ws.length cw) := by rw [cell_of_row wr _ 2 _ _ _ hS.box]; rfl
        obtain ⟨gl, hgl⟩ := row_where hS.lrow (by omega)
        subst hgl
        have c4 := row_cell hS.lrow (show ((pairsI x.1).map pv)[pre.length]? = some (.int .i64 j) by rw [hR]; simp [pv]) hlR
        have H3 := fun w' => val_in k0 m0 hk64 hm64 w'
        have H4 := fun w' (hB : Below wr.heap.size wr w') => rleads_in (hWr.below hB) hs (valK k0) (valN k0 m0)
        have HR : Hid _ := hR
        have e1 : (((pre ++ [j]).length : Nat) : Int) = pre.length + 1 := by simp
        clear hR hrw hstart
        by_cases hL : Leads (R.map Prod.fst) k0 m0
        · obtain ⟨q, hq, hqR⟩ : ∃ q : Nat, findR m0 R = q ∧ q < R.length := by
            rcases findR_cases m0 R with e | e
            · obtain ⟨_, _, o, ho, eo, _⟩ := hL
              obtain ⟨y, hy, rfl⟩ := List.mem_map.1 ho
              rcases find_cases R hs m0 with hn | ⟨l, z, r, hRz, hz, hlz⟩
              · exact (hn y hy eo).elim
              · rw [hRz, findR_at (fun u hu e => hlz u hu (by omega)) hz] at e; omega
            · exact e
          have e2 : leadI R (valK k0) (valN k0 m0) = q := by
            have hv : valN k0 m0 = m0 := by
              obtain ⟨_, h7, o, ho, eo, _⟩ := hL
              have := hu o ho
              unfold valN
              rw [if_pos (by omega)]
              simp only [wrap64]; omega
            unfold leadI
            rw [if_pos ((val_leads hu hm64).2 hL), hv, hq]
          rw [e2] at H4
          have e3 : leadG R x.1.ws j = [q] := by
            unfold leadG
            rw [show x.1.ws.getD j 0 = k0 by simp [List.getD, hk0], show x.1.ws.getD (j + 1) 0 = m0 by simp [List.getD, hm0], if_pos hL, hq]; rfl
          have HG : Hid _ := e3
          clear e2 e3 hL hq
          go_wp2
          go_region_held3 (fun W => W.cell? ⟨w.heap.size, 2, none⟩ = some (.slice (some ⟨gw, 0, none⟩) x.1.ws.length cw) ∧ W.cell? ⟨gl, pre.length, none⟩ = some (.int .i64 j) ∧ W.cell? ⟨gw, j, none⟩ = some (.int .u64 k0) ∧ W.cell? ⟨gw, j + 1, none⟩ = some (.int .u64 m0)) (first | exact ⟨c3, c4, c1, c2⟩ | exact ⟨f3, f4, f1, f2⟩ | exact ⟨g3, g4, g1, g2⟩ | go_keep)
            ((first
              | (go_at_call 104; refine (H3 _).mono ?_; rintro e w3 ⟨rfl, hB3⟩; obtain ⟨hB3', f3, f4, f1, f2⟩ := held_drew (w := wr) hB3 c3 c4 c1 c2)
              | (go_at_call 103; refine (H4 _ hB3').mono ?_; rintro e w4 ⟨rfl, hB4⟩; obtain ⟨hB4', g3, g4, g1, g2⟩ := held_more hB3' hB4 c3 c4 c1 c2)))
          have hrow4 := IsRf.row_kept hS.row (fun k e => hB4'.block k (hS.row.lt k e).2)
          have hfl := flat_len R x.1.ws pre
          have hs4 := hB4'.size
          have hws4 := hBr.size
          have hwb : w.heap.size < wr.heap.size := (Array.getElem?_eq_some_iff.1 hS.box).1
          obtain ⟨an, han⟩ : ∃ an, ([] ++ pre.flatMap (leadG R x.1.ws)).length = an := ⟨_, rfl⟩
          have hanb : an ≤ pre.length + 1 := by rw [← han]; simp at hfl ⊢; omega
          rw [han] at hrow4
          have HA : Hid _ := han
          clear han
          go_wp2_with (at_builtin; refine wpList_append_lies _ rfl _ _ 107 rfl (w.heap.size + 1) 3 i0 (.int .i64 0) 1 8 Tryz.underlying107 hi hz0 hz1 hz2 rfl (by decide) _ an _ rfl (hrow4.alloc _) ⟨w4.heap.size, 0, none⟩ 1 1 [.int .i64 q] rfl rfl (cell_one_new _ _ _) (by simp [Value.oneCell']) (by omega) (by unfold maxLen; omega) (by omega) (by simp; omega) (w4.heap.size + 1) (by simp) ?_; intro g5 c5 w5 hown5 hgrow5 hb5 hl5)
          go_roundw
          case rel =>
            have ha := HA.out
            subst ha
            exact ⟨pre ++ [j], rest, by rw [e1], by have := HR.out; simpa using this, hS.more hB4' hown5 hgrow5 hb5 HG.out⟩
          case measure => simp [intOf]; omega
        · have e2 : leadI R (valK k0) (valN k0 m0) = -1 := by
            unfold leadI
            rw [if_neg (fun hh => hL ((val_leads hu hm64).1 hh))]
          rw [e2] at H4
          have e3 : leadG R x.1.ws j = [] := by
            unfold leadG
            rw [show x.1.ws.getD j 0 = k0 by simp [List.getD, hk0], show x.1.ws.getD (j + 1) 0 = m0 by simp [List.getD, hm0], if_neg hL]
          have HG : Hid _ := e3
          clear e2 e3 hL
          go_wp2
          go_region_held3 (fun W => W.cell? ⟨w.heap.size, 2, none⟩ = some (.slice (some ⟨gw, 0, none⟩) x.1.ws.length cw) ∧ W.cell? ⟨gl, pre.length, none⟩ = some (.int .i64 j) ∧ W.cell? ⟨gw, j, none⟩ = some (.int .u64 k0) ∧ W.cell? ⟨gw, j + 1, none⟩ = some (.int .u64 m0)) (first | exact ⟨c3, c4, c1, c2⟩ | exact ⟨f3, f4, f1, f2⟩ | exact ⟨g3, g4, g1, g2⟩ | go_keep)
            ((first
              | (go_at_call 104; refine (H3 _).mono ?_; rintro e w3 ⟨rfl, hB3⟩; obtain ⟨hB3', f3, f4, f1, f2⟩ := held_drew (w := wr) hB3 c3 c4 c1 c2)
              | (go_at_call 103; refine (H4 _ hB3').mono ?_; rintro e w4 ⟨rfl, hB4⟩; obtain ⟨hB4', g3, g4, g1, g2⟩ := held_more hB3' hB4 c3 c4 c1 c2)))
          go_wp2
          go_roundw
          case rel => exact ⟨pre ++ [j], rest, by rw [e1], by have := HR.out; simpa using this, hS.skip hB4' HG.out⟩
          case measure => simp [intOf]; omega
  · rw [eI] at H1 heq
    rw [if_pos (by omega)] at heq
    simp only [Int.toNat_natCast] at heq
    have HE : Hid _ := heq
    clear heq eI
    go_enter Tryz.func124, Tryz.ntmps124
    go_wp2_with (first
      | (go_at_call 101; refine (H1 _ hB0).mono ?_; clear H1; rintro e w1 ⟨rfl, hB1⟩; obtain ⟨hb1', _, _, _, hB01'⟩ := box_after w _ _ _ hB1)
      | (at_builtin; refine wpList_append_own _ rfl _ _ 107 rfl w1.heap.size 3 i0 (.int .i64 0) 1 8 Tryz.underlying107 hi hz0 hz1 hz2 rfl (by decide) _ 0 [] rfl (World.ownsRow_nil _ _ _ _) ⟨w1.heap.size, 0, none⟩ 1 1 [.int .i64 qi] rfl rfl (cell_one_new _ _ _) (by simp [Value.oneCell']) (by unfold maxLen; omega) (by omega) (by simp) ?_; intro v0 w0 hown0 hgrow0 _; have hBa : Below w1.heap.size w1 w0 := (below1 _ _).trans (rbelow_grown hgrow0 (fun q e => by have e' : Value.ownBlock (.slice none 0 0) = some q := e; simp [Value.ownBlock] at e') (by simp)); obtain ⟨g0, c0, rfl⟩ := ownsRow_succ hown0; obtain ⟨hb1, d0, d1, d2, hB01⟩ := box_later hB01' hb1' hBa)
      | (go_at_call 102; refine (H2 _ hB01).mono ?_; clear H2; rintro e w2 ⟨pl, cl, rfl, hlrow, hB2⟩))
    have hB02 : Below w.heap.size w w2 := hB01.trans (hB2.mono hB01.size)
    have hlr : w2.ownsRow (w.heap.size + 1) 3 1 (.slice pl (pairsI x.1).length cl) (pairsI x.1).length ((pairsI x.1).map pv) := row_mono hlrow (by have h1s := hB1.size; have h2s := hBa.size; simp at h1s; omega)
    have hstart : HoldS n₀ br vo all en R x gw cw w.heap.size [qi] pl cl w2 [] (.slice (some ⟨g0, 0, none⟩) (0 + 1) c0) w2 := ⟨by simpa [pv] using row_mono (IsRf.row_kept hown0 (fun k e => hB2.block k (hown0.lt k e).2)) (by have h1s := hB1.size; have h2s := hBa.size; simp at h1s; omega), hlr, fun q e e2 => by have := (hlrow.lt q e2).1; have := (hown0.lt q e).2; omega, Below.refl _ _, (hB2.block _ (by have h1s := hB1.size; have h2s := hBa.size; simp at h1s; omega)).trans hb1⟩
    go_loopw [5, 8] (fun out k wr => ∃ (pre rest : List Nat), k = .int .i64 pre.length ∧ pairsI x.1 = pre ++ rest ∧ HoldS n₀ br vo all en R x gw cw w.heap.size [qi] pl cl w2 pre out wr) (fun _ k _ => (pairsI x.1).length - (intOf k).toNat)
    case atStart => exact ⟨[], pairsI x.1, rfl, rfl, hstart⟩
    case round =>
      obtain ⟨pre, rest, rfl, hR, hS⟩ := hrel
      have hBr : Below w.heap.size w wr := hB02.trans (hS.bel.mono (by omega))
      cases rest with
      | nil =>
        have hR' : pairsI x.1 = pre := by simpa using hR
        have hq : ¬ ((pre.length : Int) < ((pairsI x.1).length : Int)) := by rw [hR']; omega
        have HR : Hid _ := hR'
        obtain ⟨p1, c1, hv, _, _⟩ := IsAr.row_form hS.row
        have E2 : Hid _ := hv
        clear hR hR' hv hstart
        go_wp2
        go_ret
        have e := E2.out
        refine ⟨p1, c1, ?_, ?_, hBr⟩
        · rw [HE.out, HR.out, ← e]; rfl
        · rw [HE.out, HR.out, ← e]; exact row_mono hS.row (by omega)
      | cons j rest =>
        have hjm : j ∈ pairsI x.1 := by rw [hR]; simp
        have hj1 := pairsI_lt x.1 j hjm
        have hlR : pre.length < (pairsI x.1).length := by rw [hR]; simp
        have hj2 : (j : Int) < (x.1.ws.length : Int) := by omega
        have hj3 : (j : Int) + 1 < (x.1.ws.length : Int) := by omega
        have hj4 : j < x.1.ws.length := by omega
        have hj6 : IntKind.i64.wrap ((j : Int) + 1) = (j : Int) + 1 := by rw [IntKind.wrap_i64]; omega
        have hj7 : (0 : Int) ≤ (j : Int) + 1 := by omega
        have hj5 : j < 1048576 := by omega
        have hlR' : (pre.length : Int) < ((pairsI x.1).length : Int) := by omega
        obtain ⟨k0, hk0⟩ : ∃ k0, x.1.ws[j]? = some k0 := ⟨x.1.ws[j]'(by omega), by simp⟩
        obtain ⟨m0, hm0⟩ : ∃ m0, x.1.ws[j + 1]? = some m0 := ⟨x.1.ws[j + 1]'(by omega), by simp⟩
        have hk64 := h64 k0 (List.mem_of_getElem? hk0)
        have hm64 := h64 m0 (List.mem_of_getElem? hm0)
        have hWr := h.below hBr
        have hrw := (hWr.wrds x hx).1
        rw [hxv] at hrw
        have c1 := row_cell hrw (show (x.1.ws.map wv)[j]? = some (.int .u64 k0) by simp [hk0, wv]) (by omega)
        have c2 := row_cell hrw (show (x.1.ws.map wv)[j + 1]? = some (.int .u64 m0) by simp [hm0, wv]) (by omega)
        have c3 : wr.cell? ⟨w.heap.size, 2, none⟩ = some (.slice (some ⟨gw, 0, none⟩) x.1.ws.length cw) := by rw [cell_of_row wr _ 2 _ _ _ hS.box]; rfl
        obtain ⟨gl, hgl⟩ := row_where hS.lrow (by omega)
        subst hgl
        have c4 := row_cell hS.lrow (show ((pairsI x.1).map pv)[pre.length]? = some (.int .i64 j) by rw [hR]; simp [pv]) hlR
        have H3 := fun w' => val_in k0 m0 hk64 hm64 w'
        have H4 := fun w' (hB : Below wr.heap.size wr w') => rleads_in (hWr.below hB) hs (valK k0) (valN k0 m0)
        have HR : Hid _ := hR
        have e1 : (((pre ++ [j]).length : Nat) : Int) = pre.length + 1 := by simp
        clear hR hrw hstart
        by_cases hL : Leads (R.map Prod.fst) k0 m0
        · obtain ⟨q, hq, hqR'⟩ : ∃ q : Nat, findR m0 R = q ∧ q < R.length := by
            rcases findR_cases m0 R with e | e
            · obtain ⟨_, _, o, ho, eo, _⟩ := hL
              obtain ⟨y, hy, rfl⟩ := List.mem_map.1 ho
              rcases find_cases R hs m0 with hn | ⟨l, z, r, hRz, hz, hlz⟩
              · exact (hn y hy eo).elim
              · rw [hRz, findR_at (fun u hu e => hlz u hu (by omega)) hz] at e; omega
            · exact e
          have e2 : leadI R (valK k0) (valN k0 m0) = q := by
            have hv : valN k0 m0 = m0 := by
              obtain ⟨_, h7, o, ho, eo, _⟩ := hL
              have := hu o ho
              unfold valN
              rw [if_pos (by omega)]
              simp only [wrap64]; omega
            unfold leadI
            rw [if_pos ((val_leads hu hm64).2 hL), hv, hq]
          rw [e2] at H4
          have e3 : leadG R x.1.ws j = [q] := by
            unfold leadG
            rw [show x.1.ws.getD j 0 = k0 by simp [List.getD, hk0], show x.1.ws.getD (j + 1) 0 = m0 by simp [List.getD, hm0], if_pos hL, hq]; rfl
          have HG : Hid _ := e3
          clear e2 e3 hL hq
          go_wp2
          go_region_held3 (fun W => W.cell? ⟨w.heap.size, 2, none⟩ = some (.slice (some ⟨gw, 0, none⟩) x.1.ws.length cw) ∧ W.cell? ⟨gl, pre.length, none⟩ = some (.int .i64 j) ∧ W.cell? ⟨gw, j, none⟩ = some (.int .u64 k0) ∧ W.cell? ⟨gw, j + 1, none⟩ = some (.int .u64 m0)) (first | exact ⟨c3, c4, c1, c2⟩ | exact ⟨f3, f4, f1, f2⟩ | exact ⟨g3, g4, g1, g2⟩ | go_keep)
            ((first
              | (go_at_call 104; refine (H3 _).mono ?_; rintro e w3 ⟨rfl, hB3⟩; obtain ⟨hB3', f3, f4, f1, f2⟩ := held_drew (w := wr) hB3 c3 c4 c1 c2)
              | (go_at_call 103; refine (H4 _ hB3').mono ?_; rintro e w4 ⟨rfl, hB4⟩; obtain ⟨hB4', g3, g4, g1, g2⟩ := held_more hB3' hB4 c3 c4 c1 c2)))
          have hrow4 := IsRf.row_kept hS.row (fun k e => hB4'.block k (hS.row.lt k e).2)
          have hfl := flat_len R x.1.ws pre
          have hs4 := hB4'.size
          have hws4 := hBr.size
          have hwb : w.heap.size < wr.heap.size := (Array.getElem?_eq_some_iff.1 hS.box).1
          obtain ⟨an, han⟩ : ∃ an, ([qi] ++ pre.flatMap (leadG R x.1.ws)).length = an := ⟨_, rfl⟩
          have hanb : an ≤ pre.length + 1 := by rw [← han]; simp at hfl ⊢; omega
          rw [han] at hrow4
          have HA : Hid _ := han
          clear han
          go_wp2_with (at_builtin; refine wpList_append_lies _ rfl _ _ 107 rfl (w.heap.size + 1) 3 i0 (.int .i64 0) 1 8 Tryz.underlying107 hi hz0 hz1 hz2 rfl (by decide) _ an _ rfl (hrow4.alloc _) ⟨w4.heap.size, 0, none⟩ 1 1 [.int .i64 q] rfl rfl (cell_one_new _ _ _) (by simp [Value.oneCell']) (by omega) (by unfold maxLen; omega) (by omega) (by simp; omega) (w4.heap.size + 1) (by simp) ?_; intro g5 c5 w5 hown5 hgrow5 hb5 hl5)
          go_roundw
          case rel =>
            have ha := HA.out
            subst ha
            exact ⟨pre ++ [j], rest, by rw [e1], by have := HR.out; simpa using this, hS.more hB4' hown5 hgrow5 hb5 HG.out⟩
          case measure => simp [intOf]; omega
        · have e2 : leadI R (valK k0) (valN k0 m0) = -1 := by
            unfold leadI
            rw [if_neg (fun hh => hL ((val_leads hu hm64).1 hh))]
          rw [e2] at H4
          have e3 : leadG R x.1.ws j = [] := by
            unfold leadG
            rw [show x.1.ws.getD j 0 = k0 by simp [List.getD, hk0], show x.1.ws.getD (j + 1) 0 = m0 by simp [List.getD, hm0], if_neg hL]
          have HG : Hid _ := e3
          clear e2 e3 hL
          go_wp2
          go_region_held3 (fun W => W.cell? ⟨w.heap.size, 2, none⟩ = some (.slice (some ⟨gw, 0, none⟩) x.1.ws.length cw) ∧ W.cell? ⟨gl, pre.length, none⟩ = some (.int .i64 j) ∧ W.cell? ⟨gw, j, none⟩ = some (.int .u64 k0) ∧ W.cell? ⟨gw, j + 1, none⟩ = some (.int .u64 m0)) (first | exact ⟨c3, c4, c1, c2⟩ | exact ⟨f3, f4, f1, f2⟩ | exact ⟨g3, g4, g1, g2⟩ | go_keep)
            ((first
              | (go_at_call 104; refine (H3 _).mono ?_; rintro e w3 ⟨rfl, hB3⟩; obtain ⟨hB3', f3, f4, f1, f2⟩ := held_drew (w := wr) hB3 c3 c4 c1 c2)
              | (go_at_call 103; refine (H4 _ hB3').mono ?_; rintro e w4 ⟨rfl, hB4⟩; obtain ⟨hB4', g3, g4, g1, g2⟩ := held_more hB3' hB4 c3 c4 c1 c2)))
          go_wp2
          go_roundw
          case rel => exact ⟨pre ++ [j], rest, by rw [e1], by have := HR.out; simpa using this, hS.skip hB4' HG.out⟩
          case measure => simp [intOf]; omega

end Go.Proofs.YtampilfebmfhaaaGreatDoor
