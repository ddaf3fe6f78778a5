/- ShowTexts: the document's Text; the walk. -/
import Derived.Test.YtgokofomoachaaaGreatDoorShTellR
import Derived.Test.YtgokofomoachaaaGreatDoorShTwinO
import Derived.Test.YtgokofomoachaaaGreatDoorShCheck
import Derived.Lib.BufferRead
namespace Go.Proofs.YtgokofomoachaaaGreatDoor
set_option linter.unusedVariables false
set_option linter.unusedSimpArgs false
open Go.RowKit

variable {w : World}

theorem twin_len {ts : List Ot} {S : List Om} (h : ts.map Ot.o = S) : ts.length = S.length := by rw [← h]; simp

set_option maxRecDepth 20000 in
set_option maxHeartbeats 1000000 in
/-- The document's Text. -/
theorem rText_in {p : Option Addr} {S : List Om} (c : Nat) (hs : IsSt w p S) (hl : S.length ≤ 1048576) (hstr : ∀ o ∈ S, o.s.size ≤ 1048576) (hfit : ∀ o ∈ S, o.fits) (hll : ∀ o ∈ S, o.l.length ≤ 1048576) (v : Vl) (hf : v.fits) (tx : ByteArray) (tb : Bool)
    (h1 : (textB S v).length ≤ 4096 → tx = ⟨(textB S v).toArray⟩ ∧ tb = true) (h2 : 4096 < (textB S v).length → tx = ⟨#[]⟩ ∧ tb = false) :
    Calls Tryz.prog 66 #[.slice p S.length c, .agg #[.int .u8 v.k, .int .i64 v.n]] w fun e w' => e = .returned (.tuple #[.string tx, .bool tb]) ∧ Below w.heap.size w w' := by
  have hA := below2' w (.cells #[.int .u8 v.k, .int .i64 v.n] 27) (.cells #[.slice p S.length c, .slice none 0 0, .bool false] 158)
  have hv0 := (Below.heap_alloc (w.alloc (.cells #[.int .u8 v.k, .int .i64 v.n] 27)) (.cells #[.slice p S.length c, .slice none 0 0, .bool false] 158) w.heap.size (by simp)).trans (heap_alloc_new w (.cells #[.int .u8 v.k, .int .i64 v.n] 27))
  have hp0 := heap_two w (.cells #[.int .u8 v.k, .int .i64 v.n] 27) (.cells #[.slice p S.length c, .slice none 0 0, .bool false] 158)
  have ht : Tl w.heap.size (w.heap.size + 1) (.slice p S.length c) [] false ((w.alloc (.cells #[.int .u8 v.k, .int .i64 v.n] 27)).alloc (.cells #[.slice p S.length c, .slice none 0 0, .bool false] 158)) :=
    ⟨by omega, by simp, _, hp0, World.ownsRow_nil _ _ _ _⟩
  have HV0 := tvalue_all (bt := w.heap.size + 1) (c := c) hs hl hstr hfit hll 9 (by omega) _ [] false v hf hA ht
  have HV : Calls Tryz.prog 177 #[.pointer (some ⟨w.heap.size + 1, 0, none⟩), .agg #[.int .u8 v.k, .int .i64 v.n], .int .i64 0] ((w.alloc (.cells #[.int .u8 v.k, .int .i64 v.n] 27)).alloc (.cells #[.slice p S.length c, .slice none 0 0, .bool false] 158)) fun e w' => TPuts w.heap.size (w.heap.size + 1) (.slice p S.length c) [] false (textB S v) ((w.alloc (.cells #[.int .u8 v.k, .int .i64 v.n] 27)).alloc (.cells #[.slice p S.length c, .slice none 0 0, .bool false] 158)) e w' := HV0
  obtain ⟨v0, v1⟩ := cell_rowV hv0
  have HH : Hid _ := And.intro h1 h2
  clear HV0 hs hstr hfit hll h1 h2
  go_enter Tryz.func66, Tryz.ntmps66
  go_wp2_with (first
    | (go_at_call 177; (with_reducible refine HV.mono ?_); clear HV; rintro e w1 hT; obtain ⟨rfl, l', lg', ht1, hp1, hP1⟩ := hT; refine halt_here ?_))
  unfold Halted
  have hB1 : Below w.heap.size w w1 := hA.trans (hP1.bel)
  obtain ⟨hb0, -, vb, hblk, hown⟩ := ht1
  obtain ⟨⟨t0, t1, t2⟩, -⟩ := cell_row3' hblk
  obtain ⟨e1, e2⟩ := hp1
  simp only [List.length_nil, Nat.zero_add, Bool.false_or, List.nil_append] at e1 e2
  obtain ⟨g1, g2⟩ := HH.out
  by_cases hlong : 4096 < (textB S v).length
  · have hlg : lg' = true := by rw [e1]; simpa using hlong
    subst hlg
    obtain ⟨rfl, rfl⟩ := g2 hlong
    obtain ⟨pv, cv, rfl, -⟩ := row_form hown
    clear e1 e2 g1 g2 HH hown
    go_wp2
    go_ret2
    exact ⟨rfl, hB1⟩
  · have hlg : lg' = false := by rw [e1]; simpa using hlong
    have el := e2 hlg
    subst hlg
    subst el
    obtain ⟨htx, rfl⟩ := g1 (by omega)
    rcases hown.2 with ⟨hv, hn0⟩ | ⟨g, cap, cur, hv, -⟩
    · subst hv
      have hcv : (convert 156 9 (.slice none 0 0)).run Tryz.prog w1 = .ok (.string ⟨(textB S v).toArray⟩) w1 := by
        rw [List.eq_nil_of_length_eq_zero hn0]
        exact Lib.run_convert_nil_bytes (P := Tryz.prog) w1 156 9 5 0 Tryz.underlying156 Tryz.underlying5 Tryz.underlying9
      rw [← htx] at hcv
      clear e1 e2 g1 g2 HH hown hn0 htx
      go_wp2
      go_ret2
      exact ⟨rfl, hB1⟩
    · subst hv
      have hcv := backS_bytes hown
      rw [← htx] at hcv
      clear e1 e2 g1 g2 HH hown htx
      go_wp2
      go_ret2
      exact ⟨rfl, hB1⟩

end Go.Proofs.YtgokofomoachaaaGreatDoor
