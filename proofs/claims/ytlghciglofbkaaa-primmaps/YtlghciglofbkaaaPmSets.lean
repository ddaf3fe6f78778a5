/- prim: sets. -/
import Derived.Test.YtlghciglofbkaaaPmUpd
namespace Go.Proofs.Ytlghciglofbkaaa
set_option linter.unusedVariables false
set_option linter.unusedSimpArgs false
open Go.RowKit

variable {w : World}

theorem map_set_o {ts : List Po} {S : List Om} (hm : ts.map Po.o = S) (i : Nat) (y : Po) : (ts.set i y).map Po.o = S.set i y.o := by
  rw [List.map_set, hm]

/-- A Did in a block of its own. -/
def didB (p : Option Addr) (n c : Nat) (v : Vl) (t : ByteArray) (m : Int) : Obj := .cells #[.slice p n c, .int .u8 v.k, .int .i64 v.n, .string t, .int .i64 m] 28 (0, 0)

set_option maxRecDepth 20000 in
set_option maxHeartbeats 2000000 in
theorem sets_in {p : Option Addr} {S : List Om} (h : Ask w p S) (c : Nat) (k : Nat) {i : Nat} {o : Om} (ho : S[i]? = some o) {j : Nat} (hj : j < o.l.length) (u : Vl) :
    Calls Try.prog 52 #[.slice p S.length c, .agg #[.int .u8 k, .int .i64 ((i : Int) + 1)], .int .i64 j, .agg #[.int .u8 u.k, .int .i64 u.n]] w (DidR w (S.set i { o with l := o.l.set j u }) ⟨0, 0⟩ ⟨#[]⟩ 0) := by
  have hiS := (List.getElem?_eq_some_iff.1 ho).1
  have hiS' : (i : Int) < (S.length : Int) := by omega
  have hj' : (j : Int) < (o.l.length : Int) := by omega
  have hlen := h.len
  have hlo := h.vals o (List.mem_of_getElem? ho)
  have hB := below3' w (.cells #[.int .u8 k, .int .i64 ((i : Int) + 1)] 26) (.cells #[.int .u8 u.k, .int .i64 u.n] 26) (.cells #[.slice none 0 0, .int .u8 0, .int .i64 0, .string ⟨#[]⟩, .int .i64 0] 28)
  have hb0 := heap3_0 w (.cells #[.int .u8 k, .int .i64 ((i : Int) + 1)] 26) (.cells #[.int .u8 u.k, .int .i64 u.n] 26) (.cells #[.slice none 0 0, .int .u8 0, .int .i64 0, .string ⟨#[]⟩, .int .i64 0] 28)
  have hb1 := heap3_1 w (.cells #[.int .u8 k, .int .i64 ((i : Int) + 1)] 26) (.cells #[.int .u8 u.k, .int .i64 u.n] 26) (.cells #[.slice none 0 0, .int .u8 0, .int .i64 0, .string ⟨#[]⟩, .int .i64 0] 28)
  have hb2 := heap3_2 w (.cells #[.int .u8 k, .int .i64 ((i : Int) + 1)] 26) (.cells #[.int .u8 u.k, .int .i64 u.n] 26) (.cells #[.slice none 0 0, .int .u8 0, .int .i64 0, .string ⟨#[]⟩, .int .i64 0] 28)
  have H1 := comesTo_in (h.below hB) c ⟨0, 0⟩
  simp only [show ((0 : Nat) : Int) = 0 from rfl] at H1
  go_enter Try.func52, Try.ntmps52
  go_wp2_with (first
    | (go_at_call 22; (with_reducible refine H1.mono ?_); clear H1; rintro e w1 ⟨p1, c1, rfl, ⟨ts, hm, hO⟩, hB1⟩; refine halt_here ?_))
  unfold Halted
  obtain ⟨x, g, n1, cz, hx, hxo, hv, hn1, d2, d3, q, cl, hlv, hq⟩ := hO.at_ hm ho
  cases hv
  obtain ⟨gl, rfl⟩ := hq (by omega)
  have HX : Hid _ := And.intro hx (And.intro hxo (And.intro hm hlv))
  rw [hlv] at d2
  have hB' := hB.trans (hB1.mono hB.size)
  have e0 := (hB1.block _ (Array.getElem?_eq_some_iff.1 hb0).1).trans hb0
  have e1 := (hB1.block _ (Array.getElem?_eq_some_iff.1 hb1).1).trans hb1
  have e2 := (hB1.block _ (Array.getElem?_eq_some_iff.1 hb2).1).trans hb2
  have hgl : x.lv.ownBlock = some gl := by rw [hlv]; rfl
  have hrl := hO.lst x (List.mem_of_getElem? hx)
  rw [hlv, hxo] at hrl
  have hglb := hrl.lt gl rfl
  have hgb := hO.row.lt g rfl
  have hBD := below1 w1 (.cells #[.slice (some ⟨g, 0, none⟩) S.length c1, .int .u8 0, .int .i64 0, .string ⟨#[]⟩, .int .i64 0] 28)
  have f0 := (hBD.block _ (Array.getElem?_eq_some_iff.1 e0).1).trans e0
  have f1 := (hBD.block _ (Array.getElem?_eq_some_iff.1 e1).1).trans e1
  have f2 := (hBD.block _ (Array.getElem?_eq_some_iff.1 e2).1).trans e2
  have fD := heap_alloc_new w1 (.cells #[.slice (some ⟨g, 0, none⟩) S.length c1, .int .u8 0, .int .i64 0, .string ⟨#[]⟩, .int .i64 0] 28)
  have hO2 := hO.below hBD
  have d2' := (hBD.cell (p := ⟨g, i * 5 + 2, none⟩) hgb.2).trans d2
  have hrl2 := row_below hrl hBD
  have hD1 : w1.heap.size ≠ gl := by omega
  have hne1 : gl ≠ w.heap.size + 1 + 1 := by have := (hrl.lt gl rfl).1; simp at this; omega
  have HB : Hid _ := And.intro hB' hBD
  have hB3 := hB'.trans (hBD.mono hB'.size)
  clear hx hxo hm hlv hgl hO d2 d3 hrl e0 e1 e2 hb0 hb1 hb2 hB hB1 hB' hBD
  go_wp2_with fail
  generalize hWD : w1.alloc (.cells #[.slice (some ⟨g, 0, none⟩) S.length c1, .int .u8 0, .int .i64 0, .string ⟨#[]⟩, .int .i64 0] 28) = WD at *
  obtain ⟨x0, x1⟩ := cell_row2 f0
  obtain ⟨y0, y1⟩ := cell_row2 f1
  obtain ⟨⟨D0, D1, D2, D3, D4⟩, -⟩ := cell_row5 fD
  obtain ⟨v, hvj⟩ : ∃ v, o.l[j]? = some v := ⟨o.l[j], by simp⟩
  obtain ⟨z0, z1⟩ := row_vals hrl2 rfl hvj
  have fz0 := frozen_row hrl2 (j * 2)
  have fz1 := frozen_row hrl2 (j * 2 + 1)
  clear hWD hvj
  go_region
  have hO3 := hO2.put HX.out.1 (by rw [HX.out.2.1]; exact HX.out.2.2.2) (j := j) (by rw [HX.out.2.1]; exact hj) u
  rw [HX.out.2.1] at hO3
  have hk : ∀ k, k ≠ gl → (((WD.setCell ⟨gl, j * 2, none⟩ (.int .u8 u.k)).setCell ⟨gl, j * 2 + 1, none⟩ (.int .i64 u.n))).drew.heap[k]? = WD.heap[k]? := fun k hk => by
    show (((WD.setCell ⟨gl, j * 2, none⟩ (.int .u8 u.k)).setCell ⟨gl, j * 2 + 1, none⟩ (.int .i64 u.n))).heap[k]? = _
    rw [heap_setCell_other _ ⟨gl, j * 2 + 1, none⟩ _ _ hk, heap_setCell_other _ ⟨gl, j * 2, none⟩ _ _ hk]
  have hO3' : OwnSt _ _ _ (((WD.setCell ⟨gl, j * 2, none⟩ (.int .u8 u.k)).setCell ⟨gl, j * 2 + 1, none⟩ (.int .i64 u.n))).drew := hO3.kept (fun _ _ _ => rfl)
  have hge : w.heap.size ≤ gl := by have := hglb.1; simp at this; omega
  have hB4 : Below w.heap.size w (((WD.setCell ⟨gl, j * 2, none⟩ (.int .u8 u.k)).setCell ⟨gl, j * 2 + 1, none⟩ (.int .i64 u.n))).drew := below_drew (below_set (below_set hB3 hge _) hge _)
  generalize hW2 : (((WD.setCell ⟨gl, j * 2, none⟩ (.int .u8 u.k)).setCell ⟨gl, j * 2 + 1, none⟩ (.int .i64 u.n))).drew = W2 at *
  have fD2 := (hk _ hD1).trans fD
  have f22 := (hk _ (fun e => hne1 e.symm)).trans f2
  obtain ⟨⟨D0, D1, D2, D3, D4⟩, -⟩ := cell_row5 fD2
  obtain ⟨⟨R0, R1, R2, R3, R4⟩, F0, F1, F2, F3, F4⟩ := cell_row5 f22
  have HF : Hid _ := And.intro hO3' hB4
  clear hW2 hO3 hO3' hB4 hO2 hk
  go_wp2
  refine bodyPost_ret (results_cell_row (by rfl) _ _ (w.heap.size + 1 + 1) 28 _ _ _ (by rfl) (set5_row f22) Try.underlying28 (by rfl) infoDid) (by rfl) ?_
  have hsl : (S.set i { o with l := o.l.set j u }).length = S.length := by simp
  have := did_fin (w := w) f22 (by omega) (S := S.set i { o with l := o.l.set j u }) (p := some ⟨g, 0, none⟩) (c := c1) ⟨_, map_set_o HX.out.2.2.1 i _, by rw [hsl]; exact HF.out.1.mono (by simp; omega)⟩ HF.out.2 ⟨0, 0⟩ ⟨#[]⟩ 0
  rw [hsl] at this
  exact this

end Go.Proofs.Ytlghciglofbkaaa
