/- ObjectTexts: the walk. -/
import Derived.Test.YtkombdkhodjckaaGreatObAlive
namespace Go.Proofs.YtkombdkhodjckaaGreat
set_option linter.unusedVariables false
set_option linter.unusedSimpArgs false
open Go.RowKit Go.Maps

variable {n₀ bh b lim used : Nat} {vw vb : Value} {w : World} {M : List Ob}

set_option maxHeartbeats 400000 in
theorem great_in (n : Nat) (w : World) (h1 : 1 ≤ n) (h2 : n ≤ 1048576) : Calls Tryz.prog 5 #[.int .i64 n] w fun e w' => ∃ bh b vw vb, e = .returned (.pointer (some ⟨bh, 0, none⟩)) ∧ Hp w.heap.size bh b vw vb w' n 0 [] ∧ Below w.heap.size w w' := by
  have a0 := newM n w h1 h2
  go_enter Tryz.func5, Tryz.ntmps5
  go_wp2_with ((go_at_call 14; refine a0.mono ?_; clear a0; rintro e w0 ⟨bh, b, vw0, vb0, rfl, hp0, hB0⟩))
  go_ret
  exact ⟨bh, b, vw0, vb0, rfl, hp0, hB0⟩

theorem bts_bytes (s : ByteArray) : bytesW (textW (bts s)) s.size = bts s := by
  have := bytesW_text (bts_lt s)
  rw [bts_len] at this
  exact this

theorem bts_ext1 (s : ByteArray) {k : Nat} (hk : k < s.size) : bts (s.extract k (k + 1)) = [byteW (textW (bts s)) k] := by
  have h1 : byteW (textW (bts s)) k = (bts s).getD k 0 := textW_byte (bts_lt s) (by rw [bts_len]; exact hk)
  have hl : k < (bts s).length := by rw [bts_len]; exact hk
  rw [h1, List.getD_eq_getElem?_getD, List.getElem?_eq_getElem hl, Option.getD_some]
  have h2 : bts (s.extract k (k + 1)) = ((bts s).drop k).take 1 := by
    unfold bts
    rw [ByteArray.data_extract, Array.toList_extract, List.extract_eq_take_drop, List.map_take, List.map_drop]
    simp
  rw [h2, List.drop_eq_getElem_cons hl]
  rfl

theorem bts_inj {a c : ByteArray} (h : bts a = bts c) : a = c := by rw [← strOf_bts a, h, strOf_bts]

/-- What a text in the heap says. -/
theorem text_of {l r : List Ob} {at_ : Nat} {s : ByteArray} (h : Hp n₀ bh b vw vb w lim used (l ++ ⟨at_, 3, textW (bts s)⟩ :: r)) (hl1 : 1 ≤ lim) (hs : s.size ≤ 4096) :
    Calls Tryz.prog 17 #[.pointer (some ⟨bh, 0, none⟩), .agg #[.int .u8 3, .int .i64 at_]] w fun e w' => e = .returned (.tuple #[.string s, .int .i64 0]) ∧ Below w.heap.size w w' := by
  have := Text_in h hl1 (TextOb.of s hs at_)
  simp only [bts_bytes, strOf_bts] at this
  exact this

end Go.Proofs.YtkombdkhodjckaaGreat
