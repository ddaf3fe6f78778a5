/- A word as text: the law's. -/
import Derived.Test.YtpbempnenjfjdaaDoorLxAgainMath
import Derived.Lib.ConvBytes
namespace Go.Proofs.YtpbempnenjfjdaaDoor
set_option linter.unusedVariables false
set_option linter.unusedSimpArgs false
open Go.RowKit

variable {w : World}

set_option maxRecDepth 20000 in
set_option maxHeartbeats 1000000 in
theorem told_in {x : Wd} (h : OkW x) (w : World) :
    Calls Tryd.prog 8 #[.agg #[.int .u8 x.k, .string (bs x.s), .int .i64 x.n, .int .i64 x.line]] w fun e w' => e = .returned (.string (bs (toldW x))) ∧ Below w.heap.size w w' := by
  obtain ⟨k, s, n, line⟩ := x
  have hA := below1 w (.cells #[.int .u8 k, .string (bs s), .int .i64 n, .int .i64 line] 30)
  have hbk := heap_alloc_new w (.cells #[.int .u8 k, .string (bs s), .int .i64 n, .int .i64 line] 30)
  obtain ⟨⟨c0, c1, c2, c3⟩, -⟩ := cell_row4 hbk
  rcases h with ⟨hk, -, -, hl, hn⟩ | ⟨hk, hs, h0, h1⟩ | ⟨hk, hl, hn⟩ | ⟨hk, hs, hn⟩
  · simp only at hk
    subst hk
    have e : toldW ⟨1, s, n, line⟩ = s := rfl
    rw [e]
    clear hn
    go_enter Tryd.func8, Tryd.ntmps8
    go_wp2
    go_ret
    exact ⟨rfl, hA⟩
  · simp only at hk h0 h1
    subst hk
    obtain ⟨m, rfl⟩ : ∃ m : Nat, n = (m : Int) := ⟨n.toNat, by omega⟩
    have e : toldW ⟨2, s, (m : Int), line⟩ = Lib.decDigits m := rfl
    have HD := digits_in m (by omega)
    rw [e]
    clear hs
    go_enter Tryd.func8, Tryd.ntmps8
    go_wp2_with (first
      | (go_at_call 9; (with_reducible refine (HD _).mono ?_); rintro e w2 ⟨rfl, rfl⟩))
    go_ret
    exact ⟨rfl, hA⟩
  · simp only at hk hl
    subst hk
    have e : toldW ⟨3, s, n, line⟩ = quo s := rfl
    have HQ := quoted_in s (by omega)
    rw [e]
    clear hn
    go_enter Tryd.func8, Tryd.ntmps8
    go_wp2_with (first
      | (go_at_call 10; (with_reducible refine (HQ _).mono ?_); rintro e w2 ⟨rfl, hB2⟩))
    go_ret
    exact ⟨rfl, hA.trans (hB2.mono hA.size)⟩
  · simp only at hk
    subst hk
    have e : toldW ⟨4, s, n, line⟩ = s := rfl
    rw [e]
    clear hs hn
    go_enter Tryd.func8, Tryd.ntmps8
    go_wp2
    go_ret
    exact ⟨rfl, hA⟩

/-- Every text comes to something. -/
theorem lex_total (l : List UInt8) (ln : Nat) : ∃ rs, Lex l ln rs := by
  obtain ⟨n, hn⟩ : ∃ n, n = l.length := ⟨_, rfl⟩
  induction n using Nat.strongRecOn generalizing l ln with
  | _ n ih =>
    have hs := skip_le false l
    cases hx : (skip false l).1 with
    | nil => exact ⟨_, .done (n := (skip false l).2) (by rw [← hx])⟩
    | cons c r =>
      have hne : (skip false l).1 ≠ [] := by rw [hx]; simp
      cases hw : wordAt (skip false l).1 with
      | none => exact ⟨_, .bad rfl hne hw⟩
      | some y =>
        obtain ⟨wd, z⟩ := y
        have hz := wordAt_len hw
        obtain ⟨rs, hrs⟩ := ih z.length (by omega) z (ln + (skip false l).2) rfl
        exact ⟨_, .more rfl hw hrs⟩

/-- The bytes of a text, as they are laid anew. -/
theorem conv_cells (w : World) (t : List UInt8) : ∀ j u, (Lib.byteCells t)[j]? = some u → (Lib.bytesWorld w 5 (bs t)).cell? ((⟨w.heap.size, 0, none⟩ : Addr).add j) = some u := by
  intro j u hj
  have hjl : j < t.length := by
    have := (List.getElem?_eq_some_iff.1 hj).1
    simpa [Lib.byteCells] using this
  rw [Addr.add_mid, Nat.zero_add, Lib.bytesWorld_cell w 5 (bs t) j (by rw [bs_size]; exact hjl)]
  rw [← hj]
  simp [Lib.byteCells, List.getElem?_eq_getElem hjl, bs]

end Go.Proofs.YtpbempnenjfjdaaDoor
