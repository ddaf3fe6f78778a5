/- The document's reached and Words. -/
import Derived.Test.YtppjahnahomkeaaShRefMath
namespace Go.Proofs.Ytppjahnahomkeaa
set_option linter.unusedVariables false
set_option linter.unusedSimpArgs false
open Go.RowKit

variable {w : World}

def vcells : List Vl → List Value
  | [] => []
  | v :: r => .int .u8 v.k :: .int .i64 v.n :: vcells r

theorem vcells_len : ∀ (l : List Vl), (vcells l).length = l.length * 2
  | [] => rfl
  | v :: r => by simp [vcells, vcells_len r]; omega

theorem vcells_append : ∀ (l r : List Vl), vcells (l ++ r) = vcells l ++ vcells r
  | [], _ => rfl
  | v :: l, r => by simp [vcells, vcells_append l r]

theorem vcells_get : ∀ (l : List Vl) (j : Nat) (v : Vl), l[j]? = some v → (vcells l)[j * 2]? = some (.int .u8 v.k) ∧ (vcells l)[j * 2 + 1]? = some (.int .i64 v.n)
  | [], j, v, h => by simp at h
  | u :: r, 0, v, h => by simp at h; subst h; simp [vcells]
  | u :: r, j + 1, v, h => by
    have := vcells_get r j v (by simpa using h)
    rw [show (j + 1) * 2 = j * 2 + 2 by omega]
    simpa [vcells] using this

theorem vcells_one (l : List Vl) : ∀ u ∈ vcells l, u.oneCell' = true := by
  induction l with
  | nil => simp [vcells]
  | cons v r ih => simp [vcells, Value.oneCell']; exact ih

theorem vcells_at : ∀ (l : List Vl) (j : Nat) (u : Value), (vcells l)[j]? = some u → ∃ i v, l[i]? = some v ∧ ((j = i * 2 ∧ u = .int .u8 v.k) ∨ (j = i * 2 + 1 ∧ u = .int .i64 v.n))
  | [], j, u, h => by simp [vcells] at h
  | v :: r, 0, u, h => by simp [vcells] at h; exact ⟨0, v, by simp, .inl ⟨rfl, h.symm⟩⟩
  | v :: r, 1, u, h => by simp [vcells] at h; exact ⟨0, v, by simp, .inr ⟨rfl, h.symm⟩⟩
  | v :: r, j + 2, u, h => by
    obtain ⟨i, x, h1, h2⟩ := vcells_at r j u (by simpa [vcells] using h)
    refine ⟨i + 1, x, by simpa using h1, ?_⟩
    rcases h2 with ⟨q, e⟩ | ⟨q, e⟩
    · exact .inl ⟨by omega, e⟩
    · exact .inr ⟨by omega, e⟩

theorem infoV : (Try.prog.info? 26).map (fun i => (i.zero, i.size, i.bytes)) = some (some (.agg #[.int .u8 0, .int .i64 0]), 2, 16) := by kernel_rfl

theorem infoB : (Try.prog.info? 4).map (fun i => (i.zero, i.size, i.bytes)) = some (some (.bool false), 1, 1) := by kernel_rfl

theorem makeBools (size : Nat) (hs : size ≤ 1048576) (W : World) :
    (Instr.makeSlice 48 (.int .i64 size) (.int .i64 size)).run Try.prog W = .ok (.slice (some ⟨W.heap.size, 0, none⟩) size size) (W.alloc (.cells (madeCells #[.bool false] size) 4)) := by
  obtain ⟨i0, hi, hz0, hz1, hz2⟩ := info_parts infoB
  have := run_make (P := Try.prog) W 48 4 i0 (.bool false) Try.underlying48 hi hz0 .i64 .i64 size size (by omega) (Int.le_refl _) (by rw [hz2]; omega) (by omega)
  rw [hz1] at this
  simpa [Value.cells] using this

/-- Marks in memory. -/
def IsIn (w : World) (bi : Nat) (In : List Bool) : Prop := w.heap[bi]? = some (.cells (In.map Value.bool).toArray 4 (0, 0))

theorem made_in (n : Nat) (W : World) : IsIn (W.alloc (.cells (madeCells #[.bool false] n) 4)) W.heap.size (List.replicate n false) := by
  unfold IsIn
  rw [heap_alloc_new]
  have : madeCells #[Value.bool false] n = ((List.replicate n false).map Value.bool).toArray := by
    apply Array.ext'
    apply List.ext_getElem?
    intro j
    by_cases hj : j < n
    · simp [madeCells, hj, Nat.mod_one]
    · simp [madeCells, hj]
  rw [this]

theorem IsIn.kept {bi : Nat} {In : List Bool} (h : IsIn w bi In) {w' : World} (hk : w'.heap[bi]? = w.heap[bi]?) : IsIn w' bi In := hk.trans h

theorem IsIn.cell {bi : Nat} {In : List Bool} (h : IsIn w bi In) {i : Nat} {b : Bool} (hb : In[i]? = some b) : w.cell? ⟨bi, i, none⟩ = some (.bool b) ∧ w.frozen? ⟨bi, i, none⟩ = false := by
  refine ⟨?_, frozen_of_row w bi i _ _ h⟩
  rw [cell_of_row w bi i _ _ _ h]
  simp [hb]

theorem IsIn.set {bi : Nat} {In : List Bool} (h : IsIn w bi In) {i : Nat} (b : Bool) : IsIn (w.setCell ⟨bi, i, none⟩ (.bool b)) bi (In.set i b) := by
  unfold IsIn
  have := heap_setCell_same w bi i _ _ (.bool b) h
  rw [this]
  simp

/-- A row of values, with its cells. -/
theorem row_vals {base g c n : Nat} {vs : List Vl} (h : w.ownsRow base 26 2 (.slice (some ⟨g, 0, none⟩) n c) n (vcells vs)) (hn : vs.length = n) {j : Nat} {v : Vl} (hj : vs[j]? = some v) : w.cell? ⟨g, j * 2, none⟩ = some (.int .u8 v.k) ∧ w.cell? ⟨g, j * 2 + 1, none⟩ = some (.int .i64 v.n) := by
  have hlt := (List.getElem?_eq_some_iff.1 hj).1
  obtain ⟨h1, h2⟩ := vcells_get vs j v hj
  exact ⟨by rw [h.cellAt _ (by omega)]; exact h1, by rw [h.cellAt _ (by omega)]; exact h2⟩

theorem row_lessV {base g c n : Nat} {a b : List Vl} (h : w.ownsRow base 26 2 (.slice (some ⟨g, 0, none⟩) (n + 1) c) (n + 1) (vcells (a ++ b))) (hx : a.length = n) : w.ownsRow base 26 2 (.slice (some ⟨g, 0, none⟩) n c) n (vcells a) := by
  refine ⟨by rw [vcells_len, hx], ?_⟩
  rcases h.2 with ⟨h1, _⟩ | ⟨g', cap, cur, h1, hb, hg, hnc, hcm, hcs, htake⟩
  · simp at h1
  · simp only [Value.slice.injEq, Option.some.injEq, Addr.mk.injEq, and_true, true_and] at h1
    obtain ⟨rfl, rfl⟩ := h1
    refine .inr ⟨_, _, cur, rfl, hb, hg, by omega, hcm, hcs, ?_⟩
    rw [vcells_append] at htake
    have e2 : (vcells a ++ vcells b).take (n * 2) = vcells a := by rw [← hx, ← vcells_len]; simp
    have e := congrArg (List.take (n * 2)) htake
    rw [e2] at e
    rw [← e, List.take_take]
    congr 1
    omega

/-- Values are put behind a row of one's own. -/
theorem wpList_append_vals {ops : Array Oper} {rest : List Oper} {o : Oper} {a : Act} {Q : Exit → Act → World → Prop} (hgd : o.guard = none) (s x : Operand)
    (ho : o.op = .call { callee := .builtin .append, args := #[s, x], argTypes := #[31, 31] })
    (base : Nat) (v : Value) (n : Nat) (xs : List Value) (hs : a.eval s = v) (hown : w.ownsRow base 26 2 v n xs) (l : List Vl) (q : Option Addr) (cq : Nat) (hx : a.eval x = .slice q l.length cq) (hv : Vals w q l) (hq : q = none → cq = 0)
    (h63 : n + l.length ≤ maxLen) (hbytes : (n + l.length) * 16 ≤ 140737488355328) (hbase : base ≤ w.heap.size)
    (h : ∀ v' w', w'.ownsRow base 26 2 v' (n + l.length) (xs ++ vcells l) → w.grownBy w' v.ownBlock → wpList Try.prog ops Q rest (a.put o.dst v') w') : wpList Try.prog ops Q (o :: rest) a w := by
  obtain ⟨i0, hi, hz0, hz1, hz2⟩ := info_parts infoV
  cases q with
  | none =>
    have hl : l = [] := by
      cases l with
      | nil => rfl
      | cons u r =>
        obtain ⟨b0, off, e, _⟩ := hv 0 u (by simp)
        cases e
    subst hl
    have hc := hq rfl
    subst hc
    refine wpList_append_own_none hgd s x 31 ho base 26 i0 2 Try.underlying31 hi v n xs hs hown hx ?_
    have := h v w (by simpa [vcells] using hown) ⟨rfl, rfl, rfl, Nat.le_refl _, fun _ _ _ => rfl⟩
    exact this
  | some ad =>
    refine wpList_append_own w hgd s x 31 ho base 26 i0 (.agg #[.int .u8 0, .int .i64 0]) 2 16 Try.underlying31 hi hz0 hz1 hz2 rfl (by decide) v n xs hs hown ad l.length cq (vcells l) hx (vcells_len l) ?_ (vcells_one l) h63 hbytes hbase (fun v' w' h1 h2 _ => h v' w' h1 h2)
    intro j u hj
    obtain ⟨i, y, hy, hu⟩ := vcells_at l j u hj
    obtain ⟨b0, off, e, h1, h2⟩ := hv i y hy
    cases e
    rcases hu with ⟨rfl, rfl⟩ | ⟨rfl, rfl⟩
    · rw [Addr.add_lit]; exact h1
    · rw [Addr.add_lit, ← Nat.add_assoc]; exact h2

/-- What stands before a round. -/
def RoundR (w0 : World) (bi : Nat) (S : List Om) (roots : List Vl) (vt : Value) (m : Nat) (w : World) : Prop :=
  ∃ (In : List Bool) (todo : List Vl), IsIn w bi In ∧ w.ownsRow (w0.heap.size + 1) 26 2 vt todo.length (vcells todo) ∧ WayR S roots In todo ∧ Below w0.heap.size w0 w ∧ m = todo.length + leftB In S ∧ m ≤ 100000 + 100000 * S.length

theorem snocV (l : List Vl) (h : l ≠ []) : ∃ a x, l = a ++ [x] := ⟨l.dropLast, l.getLast h, (List.dropLast_concat_getLast h).symm⟩

set_option maxRecDepth 20000 in
set_option maxHeartbeats 2000000 in
theorem reached_in {p q : Option Addr} {S : List Om} {roots : List Vl} (c cq : Nat) (hs : IsSt w p S) (hlen : S.length ≤ 1048576) (hvls : ∀ o ∈ S, o.l.length ≤ 100000) (hv : Vals w q roots) (hr : roots.length ≤ 100000) (hq0 : q = none → cq = 0) :
    Calls Try.prog 22 #[.slice p S.length c, .slice q roots.length cq] w fun e w' => ∃ bi In, e = .returned (.slice (some ⟨bi, 0, none⟩) S.length S.length) ∧ IsIn w' bi In ∧ WayR S roots In [] ∧ Below w.heap.size w w' := by
  have hmk := makeBools S.length hlen w
  have hB1 := below1 w (.cells (madeCells #[.bool false] S.length) 4)
  have hI1 := made_in S.length w
  have hs1 : (w.alloc (.cells (madeCells #[.bool false] S.length) 4)).heap.size = w.heap.size + 1 := by simp
  generalize w.alloc (.cells (madeCells #[.bool false] S.length) 4) = w1 at *
  have hv1 := hv.below hB1
  go_enter Try.func22, Try.ntmps22
  go_wp2_with (first
    | (at_builtin; refine wpList_append_vals rfl _ _ rfl (w.heap.size + 1) (.slice none 0 0) 0 [] rfl (World.ownsRow_nil _ _ _ _) roots q cq rfl hv1 hq0 (by unfold maxLen; omega) (by omega) (by omega) ?_; intro v2 w2 hown2 hgrow2))
  go_loopw [6] (fun vt wr => ∃ m, RoundR w w.heap.size S roots vt m wr) (fun vt wr => least (RoundR w w.heap.size S roots vt) wr)
  case atStart =>
    refine ⟨_, _, roots, hI1.kept ?_, ?_, WayR.start S roots, hB1.trans (rbelow_grown hgrow2 (fun q e => by cases e) (by omega)), rfl, ?_⟩
    · exact hgrow2.block _ (by omega) (by simp [Value.ownBlock])
    · simpa using hown2
    · have := leftB_le (In := List.replicate S.length false) hvls
      omega
  case round =>
    have hl := least_at hrel
    generalize hm : least (RoundR w w.heap.size S roots _) wr = m at hl
    obtain ⟨In, todo, hIn, hrow, hway, hB, hm2, hmb⟩ := hl
    have hinl : w.heap.size < wr.heap.size := (Array.getElem?_eq_some_iff.1 hIn).1
    obtain ⟨pv, cv, hu6, hcl, hcm, hpg⟩ := row_form hrow
    by_cases htd : todo = []
    · subst htd
      subst hu6
      simp only [List.length_nil]
      clear hm hm2 hmb hrel
      go_wp2
      go_ret
      exact ⟨_, In, rfl, hIn, hway, hB⟩
    · obtain ⟨a, v, rfl⟩ := snocV todo htd
      obtain ⟨g, rfl⟩ := hpg (by simp)
      have hle : (a ++ [v]).length = a.length + 1 := by simp
      rw [hle] at hrow hcl hu6 hm2
      subst hu6
      obtain ⟨v0, v1⟩ := row_vals hrow hle (j := a.length) (v := v) (by simp)
      have hrowa := row_lessV hrow rfl
      have hL := rLeads_in c (hs.below hB) hlen v
      have hal40 : a.length ≤ 100000 + 100000 * 1048576 := by omega
      have hpos : (0 : Int) < ((a.length + 1 : Nat) : Int) := by omega
      have hal : (a.length : Int) < ((a.length + 1 : Nat) : Int) := by omega
      have hac : (a.length : Int) ≤ (cv : Int) := by omega
      have HM : Hid _ := And.intro hm (And.intro hm2 hmb)
      cases hlead : leadO S v with
      | none =>
        have e1 : leadI S v = -1 := by unfold leadI; rw [hlead]
        rw [e1] at hL
        have hway' := hway.pass (fun q => (q hlead).elim)
        have hw1 : wrap64 (a.length : Int) = a.length := by
          clear hm hm2 hmb
          unfold wrap64; omega
        clear hm hm2 hmb hrel hway hle hcl hcm hmk htd
        go_wp2_with (first
          | (go_at_call 33; refine hL.mono ?_; clear hL; rintro e w3 ⟨hB3, rfl⟩))
        clear hw1
        have key : RoundR w w.heap.size S roots (.slice (some ⟨g, 0, none⟩) a.length cv) (a.length + leftB In S) w3 :=
          ⟨In, a, hIn.kept (hB3.block _ hinl), row_below hrowa hB3, hway', hB.trans (hB3.mono hB.size), rfl, by have := HM.out; omega⟩
        refine ⟨⟨_, key⟩, ?_⟩
        have q1 := least_le key
        obtain ⟨q2, q3, q4⟩ := HM.out
        rw [q2]
        omega
      | some o =>
        obtain ⟨-, -, -, i, hni, hiS, hSi⟩ := leadO_some hlead
        have e1 : leadI S v = (i : Int) := by unfold leadI; rw [hlead]; show v.n - 1 = _; omega
        rw [e1] at hL
        have hiI : i < In.length := by rw [hway.len]; exact hiS
        have hii : (i : Int) < (S.length : Int) := by omega
        have hi0 : (0 : Int) ≤ (i : Int) := by omega
        obtain ⟨bb, hbb⟩ : ∃ bb, In[i]? = some bb := ⟨In[i], by simp [hiI]⟩
        cases bb with
        | true =>
          have hway' := hway.pass (fun _ => ⟨by omega, by rw [show (v.n - 1).toNat = i by omega]; exact hbb⟩)
          have hcI := fun (w3 : World) (hB3 : Below wr.heap.size wr w3) => (IsIn.cell (hIn.kept (hB3.block _ hinl)) hbb).1
          have hw1 : wrap64 (a.length : Int) = a.length := by
            clear hm hm2 hmb
            unfold wrap64; omega
          clear hm hm2 hmb hrel hway hle hcl hcm hmk htd hni hSi hiI
          go_wp2_with (first
            | (go_at_call 33; refine hL.mono ?_; clear hL; rintro e w3 ⟨hB3, rfl⟩; have hc3 := hcI w3 hB3; clear hcI))
          clear hw1
          have key : RoundR w w.heap.size S roots (.slice (some ⟨g, 0, none⟩) a.length cv) (a.length + leftB In S) w3 :=
            ⟨In, a, hIn.kept (hB3.block _ hinl), row_below hrowa hB3, hway', hB.trans (hB3.mono hB.size), rfl, by have := HM.out; omega⟩
          refine ⟨⟨_, key⟩, ?_⟩
          have q1 := least_le key
          obtain ⟨q2, q3, q4⟩ := HM.out
          rw [q2]
          omega
        | false =>
          have hway' := hway.mark hlead hni hiS
          have hcI := fun (w3 : World) (hB3 : Below wr.heap.size wr w3) => IsIn.cell (hIn.kept (hB3.block _ hinl)) hbb
          have hlb := leftB_set hbb hSi
          have hol := hvls o (List.mem_of_getElem? hSi)
          have hlook := fun (W : World) (hBW : Below w.heap.size w W) => hs.look hBW hSi
          have hnk : ∀ k, (Value.slice (some ⟨g, 0, none⟩) a.length cv).ownBlock = some k → k ≠ w.heap.size := fun k e e2 => by have := (hrowa.lt k e).1; omega
          have HL : Hid _ := hlb
          have hsum : a.length + o.l.length ≤ 100000 + 100000 * 1048576 := by omega
          have HN : Hid _ := And.intro hnk (And.intro hlook (And.intro hcI (And.intro hway' (And.intro hIn hrowa))))
          clear hm hm2 hmb hrel hway hle hcl hcm hmk htd hni hSi hiI hlb hnk hlook hcI hway' hIn hrowa hv hs hvls hq0 hlead hbb hgrow2 hown2 hI1 hB1 hv1
          go_wp2_with (first
            | (go_at_call 33; go_loud (refine hL.mono ?_; clear hL; rintro e w3 ⟨hB3, rfl⟩; obtain ⟨hc3, hf3⟩ := HN.out.2.2.1 w3 hB3; obtain ⟨b0, off, rfl, s0, s1, ⟨qo, co, s2, hvo, hqo⟩, s3, s4⟩ := HN.out.2.1 (w3.setCell ⟨w.heap.size, i, none⟩ (.bool true)) (below_set (i := i) (hB.trans (hB3.mono hB.size)) (Nat.le_refl _) _); have hvo3 := hvo.below (below_set (i := i) (hB.trans (hB3.mono hB.size)) (Nat.le_refl _) (.bool true)); have hrow3 := row_kept (row_below HN.out.2.2.2.2.2 hB3) (fun k e => heap_setCell_other w3 ⟨w.heap.size, i, none⟩ k (.bool true) (HN.out.1 k e))))
            | (at_builtin; go_loud (have hsz5 := hB3.size; refine wpList_append_vals rfl _ _ rfl (w.heap.size + 1) (.slice (some ⟨g, 0, none⟩) a.length cv) a.length (vcells a) rfl hrow3 o.l qo co rfl hvo3 hqo (by unfold maxLen; omega) (by omega) (by simp [World.setCell]; omega) ?_; intro v5 w5 hown5 hgrow5)))
          obtain ⟨hnk, -, -, hway', hIn, hrowa⟩ := HN.out
          have key : RoundR w w.heap.size S roots v5 ((a ++ o.l).length + leftB (In.set i true) S) w5 := by
            refine ⟨In.set i true, a ++ o.l, ((hIn.kept (hB3.block _ hinl)).set true).kept (hgrow5.block _ ?_ ?_), ?_, hway', ?_, rfl, ?_⟩
            · have := hB3.size; simp [World.setCell]; omega
            · intro e
              have := (hrowa.lt _ e.symm).1
              omega
            · rw [vcells_append, List.length_append]; exact hown5
            · refine (below_set (hB.trans (hB3.mono hB.size)) (Nat.le_refl _) _).trans (rbelow_grown hgrow5 (fun k e => ?_) ?_)
              · have := (hrowa.lt k e).1; omega
              · have := hB3.size; simp [World.setCell]; omega
            · have := HM.out; have := HL.out; rw [List.length_append]; omega
          refine ⟨⟨_, key⟩, ?_⟩
          have q1 := least_le key
          obtain ⟨q2, q3, q4⟩ := HM.out
          have q5 := HL.out
          rw [List.length_append] at q1
          rw [q2]
          omega

end Go.Proofs.Ytppjahnahomkeaa
