/- What a text says: bytes out of words. -/
import Derived.Test.YtkombdkhodjckaaGreatObNew
import Derived.Laws.BytesArg
namespace Go.Proofs.YtkombdkhodjckaaGreat
set_option linter.unusedVariables false
set_option linter.unusedSimpArgs false
open Go.RowKit

variable {n₀ bh b lim used : Nat} {vw vb : Value} {w : World} {M : List Ob}

/-- The byte of words at a place. -/
def byteW (ws : List Nat) (i : Nat) : Nat := ws.getD (1 + i / 8) 0 / 256 ^ (i % 8) % 256

def bytesW (ws : List Nat) (m : Nat) : List Nat := (List.range m).map (byteW ws)

theorem bytesW_len (ws : List Nat) (m : Nat) : (bytesW ws m).length = m := by simp [bytesW]

theorem bytesW_succ (ws : List Nat) (m : Nat) : bytesW ws (m + 1) = bytesW ws m ++ [byteW ws m] := by simp [bytesW, List.range_succ]

theorem bytesW_take (ws : List Nat) {m n : Nat} (h : n ≤ m) : (bytesW ws m).take n = bytesW ws n := by
  unfold bytesW
  rw [← List.map_take, List.take_range, Nat.min_eq_left h]

theorem bytesW_text {l : List Nat} (h : ∀ b ∈ l, b < 256) : bytesW (textW l) l.length = l := by
  refine List.ext_getElem? (fun i => ?_)
  by_cases hi : i < l.length
  · unfold bytesW
    rw [List.getElem?_map, List.getElem?_range hi]
    simp only [Option.map_some]
    have := textW_byte h hi
    unfold byteW
    rw [this, List.getD, List.getElem?_eq_getElem hi]
    rfl
  · rw [List.getElem?_eq_none (by rw [bytesW_len]; omega), List.getElem?_eq_none (by omega)]

def u8v (n : Nat) : Value := .int .u8 n

theorem infoU8 : (Tryz.prog.info? 5).map (fun i => (i.zero, i.size, i.bytes)) = some (some (.int .u8 0), 1, 1) := by kernel_rfl

theorem strOf_bts (s : ByteArray) : strOfNums ((bts s).map (fun (n : Nat) => (n : Int))) = s := by
  obtain ⟨⟨l⟩⟩ := s
  unfold strOfNums bts
  congr 1
  congr 1
  simp only [List.map_map]
  have : l.map ((fun n : Int => UInt8.ofNat n.toNat) ∘ (fun n : Nat => (n : Int)) ∘ UInt8.toNat) = l.map id := List.map_congr_left (fun x _ => by simp)
  rw [this]; simp

set_option maxRecDepth 20000 in
set_option maxHeartbeats 1000000 in
theorem said_in {l r : List Ob} {o : Ob} (h : Hp n₀ bh b vw vb w lim used (l ++ o :: r)) (n : Nat) (hn : n ≤ 4096) :
    Calls Tryz.prog 45 #[mem bh, .int .i64 o.at_, .int .i64 n] w fun e w' => e = .returned (.string (strOfNums ((bytesW o.ws n).map (fun (n : Nat) => (n : Int))))) ∧ Below w.heap.size w w' := by
  obtain ⟨i0, hi, hz0, hz1, hz2⟩ := info_parts infoU8
  have H1 := fun w' (hB : Below w.heap.size w w') (i : Nat) => oword_in (h.below hB) i
  unfold mem at H1 ⊢
  go_enter Tryz.func45, Tryz.ntmps45
  go_wp2_with (first
    | (at_make; refine wpList_make_own _ rfl _ _ 145 rfl w.heap.size 5 i0 (.int .u8 0) 1 Tryz.underlying145 hi hz0 hz1 .i64 .i64 _ (n + 8) rfl rfl (by simp) (by rw [hz2]; omega) (by unfold maxLen; omega) (by simp) ?_; intro w1 hown1 hgrow1))
  rw [World.size_alloc] at hown1
  have hB0 := below1 w (.cells #[.pointer (some ⟨bh, 0, none⟩)] 54)
  have hB1 : Below w.heap.size w w1 := hB0.trans (rbelow_grown hgrow1 (fun q e => by cases e) (by simp))
  have m1 : w1.heap[w.heap.size]? = some (.cells #[.pointer (some ⟨bh, 0, none⟩)] 54 (0, 0)) := (hgrow1.block w.heap.size (by simp) (by simp)).trans (heap_alloc_new w _)
  go_loopw [7, 8] (fun t k wr => ∃ (m j : Nat), k = .int .i64 (j + 1 : Nat) ∧ Hid (m = 8 * j) ∧ m < n + 8 ∧ wr.ownsRow w.heap.size 5 1 t m ((bytesW o.ws m).map u8v) ∧ Below w.heap.size w wr ∧ wr.heap[w.heap.size]? = some (.cells #[.pointer (some ⟨bh, 0, none⟩)] 54 (0, 0))) (fun _ k _ => n + 16 - 8 * (intOf k).toNat)
  case atStart => exact ⟨0, 0, rfl, rfl, by omega, hown1, hB1, m1⟩
  case round =>
    obtain ⟨m, j, rfl, hmj, hmn, hrow, hB, mb⟩ := hrel
    obtain ⟨p, cp, rfl, hcp, _⟩ := IsAr.row_form hrow
    have hsz := hB.size
    by_cases hmn2 : m < n
    · have hmn' : (m : Int) < (n : Int) := by omega
      have H2 := H1 wr hB (j + 1)
      have c0 : wr.cell? ⟨w.heap.size, 0, none⟩ = some (.pointer (some ⟨bh, 0, none⟩)) := by rw [cell_of_row wr w.heap.size 0 _ _ _ mb]; rfl
      have hj20 : j ≤ 4096 := by have := hmj.out; omega
      obtain ⟨W, hW⟩ : ∃ W, o.ws.getD (j + 1) 0 = W := ⟨_, rfl⟩
      rw [hW] at H2
      have HW : Hid _ := hW
      clear hW
      go_wp2_with (first
        | (go_at_call 89; refine H2.mono ?_; clear H2; rintro e w2 ⟨rfl, hB2⟩))
      have hB02 := hB.trans (hB2.mono hB.size)
      have hrow2 := row_kept hrow (fun k hk => hB2.block k (hrow.lt k hk).2)
      have mb2 := (hB2.block w.heap.size (Array.getElem?_eq_some_iff.1 mb).1).trans mb
      go_loopw [7, 9, 23] (fun t v k wq => ∃ q : Nat, q ≤ 8 ∧ k = .int .i64 q ∧ v = .int .u64 (W / 256 ^ q : Nat) ∧ wq.ownsRow w.heap.size 5 1 t (m + q) ((bytesW o.ws (m + q)).map u8v) ∧ Below w.heap.size w wq ∧ wq.heap[w.heap.size]? = some (.cells #[.pointer (some ⟨bh, 0, none⟩)] 54 (0, 0))) (fun _ _ k _ => 8 - (intOf k).toNat)
      case atStart => exact ⟨0, by omega, rfl, by simp, by simpa using hrow2, hB02, mb2⟩
      case round =>
        obtain ⟨q, hq8, rfl, rfl, hrq, hBq, mq⟩ := hrel
        have hszq := hBq.size
        by_cases hq : q < 8
        · have hq' : (q : Int) < 8 := by omega
          obtain ⟨X, hX⟩ : ∃ X, W / 256 ^ q = X := ⟨_, rfl⟩
          rw [hX]
          have hby : IntKind.u8.wrap (X : Int) = ((byteW o.ws (m + q) : Nat) : Int) := by
            unfold byteW
            have e1 : 1 + (m + q) / 8 = j + 1 := by have := hmj.out; omega
            have e2 : (m + q) % 8 = q := by have := hmj.out; omega
            rw [e1, e2, HW.out, hX, IntKind.wrap_u8']
            omega
          have HX : Hid _ := And.intro hX hby
          clear hX hby
          go_wp2_with (first
            | (at_builtin; refine wpList_append_own _ rfl _ _ 145 rfl w.heap.size 5 i0 (.int .u8 0) 1 1 Tryz.underlying145 hi hz0 hz1 hz2 rfl (by decide) _ (m + q) _ rfl (hrq.alloc _) ⟨_, 0, none⟩ 1 1 [.int .u8 (IntKind.u8.wrap (X : Int))] rfl rfl (cell_one_new _ _ _) (by simp [Value.oneCell']) (by unfold maxLen; omega) (by omega) (by simp; omega) ?_; intro v5 w5 hown5 hgrow5 _))
          have hne : some w.heap.size ≠ Value.ownBlock u7 := fun e => by
            obtain ⟨cur, hc⟩ := IsAr.row_type hrq e.symm
            rw [mq] at hc
            cases hc
          have hlt := (Array.getElem?_eq_some_iff.1 mq).1
          go_roundw
          case rel =>
            obtain ⟨hX, hby⟩ := HX.out
            refine ⟨q + 1, by omega, by simp, ?_, ?_, (hBq.alloc hBq.size _).trans (rbelow_grown hgrow5 (fun q e => (hrq.lt q e).1) (by simp; omega)), (hgrow5.block w.heap.size (by simp; omega) hne).trans ((Below.heap_alloc _ _ _ hlt).trans mq)⟩
            · rw [Nat.pow_succ, ← Nat.div_div_eq_div_mul, hX]; simp
            · rw [← Nat.add_assoc, bytesW_succ, List.map_append]
              rw [hby] at hown5
              exact hown5
          case measure => simp [intOf]; omega
        · have hq' : ¬ (q : Int) < 8 := by omega
          have e8 : q = 8 := by omega
          subst e8
          go_wp2
          go_roundw
          case rel =>
            refine ⟨m + 8, j + 1, by simp, ?_, by omega, hrq, hBq, mq⟩
            have := hmj.out
            show m + 8 = 8 * (j + 1)
            omega
          case measure =>
            have := hmj.out
            simp [intOf]
            omega
    · have hmn' : ¬ (m : Int) < (n : Int) := by omega
      have hnm' : (n : Int) ≤ (m : Int) := by omega
      have hnc' : (n : Int) ≤ (cp : Int) := by omega
      rcases hrow.2 with ⟨h0, h0'⟩ | ⟨g, cap, cur, hg, _⟩
      · obtain rfl : n = 0 := by omega
        injection h0 with hp _ hc
        subst hp hc
        have hconv := run_convert_bytes_nil (P := Tryz.prog) wr 145 5 Tryz.underlying145 Tryz.underlying5 0 0 9 Tryz.underlying9
        go_wp2
        go_ret
        exact ⟨rfl, hB⟩
      · injection hg with hp _ hc
        subst hp
        subst hc
        have hconv := run_convert_bytes_arg (P := Tryz.prog) wr 145 5 Tryz.underlying145 Tryz.underlying5 g 0 n cp ((bytesW o.ws n).map (fun (n : Nat) => (n : Int))) (by simp [bytesW_len]) (fun i hi => by
          rw [Nat.zero_add, hrow.cellAt i (by omega)]
          have hl : i < (bytesW o.ws m).length := by rw [bytesW_len]; omega
          have hl2 : i < (bytesW o.ws n).length := by rw [bytesW_len]; exact hi
          have e : (bytesW o.ws m)[i]? = (bytesW o.ws n)[i]? := by rw [← bytesW_take o.ws (show n ≤ m by omega), List.getElem?_take, if_pos hi]
          rw [List.getElem?_map, e, List.getElem?_eq_getElem hl2]
          simp [u8v, List.getD, List.getElem?_eq_getElem hl2]) 9 Tryz.underlying9
        go_wp2
        go_ret
        exact ⟨rfl, hB⟩

end Go.Proofs.YtkombdkhodjckaaGreat
