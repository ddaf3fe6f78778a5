/- LexJoins: the walk. -/
import Derived.Test.YtpbempnenjfjdaaDoorLxJoinLaw
namespace Go.Proofs.YtpbempnenjfjdaaDoor
set_option linter.unusedVariables false
set_option linter.unusedSimpArgs false
open Go.RowKit

variable {w : World}

/-- Every text comes to something. -/
theorem Lex.total (l : List UInt8) (ln : Nat) : ∃ rs, Lex l ln rs := by
  obtain ⟨n, hn⟩ : ∃ n, n = l.length := ⟨_, rfl⟩
  induction n using Nat.strongRecOn generalizing l ln with
  | _ n ih =>
    have hs := skip_le false l
    cases hx : (skip false l).1 with
    | nil => exact ⟨_, .done (n := (skip false l).2) (by rw [← hx])⟩
    | cons c r =>
      have hne : (skip false l).1 ≠ [] := by rw [hx]; simp
      cases hw : wordAt (skip false l).1 with
      | none => exact ⟨_, .bad rfl hne hw⟩
      | some y =>
        obtain ⟨wd, z⟩ := y
        have hz := wordAt_len hw
        obtain ⟨rs, hrs⟩ := ih z.length (by omega) z (ln + (skip false l).2) rfl
        exact ⟨_, .more rfl hw hrs⟩

theorem Lex.small {l : List UInt8} {ln : Nat} {rs : Rs} (h : Lex l ln rs) : ∀ ws, rs = .ok ws → ws.length ≤ l.length ∧ ∀ x ∈ ws, x.line ≤ ln + l.length := by
  induction h using Lex.ind with
  | done h => intro ws e; cases e; simp
  | bad h hx hw => intro ws e; cases e
  | @more l ln n x z w r h hw hr ih =>
    intro ws e
    have hs := skip_le false l
    rw [h] at hs
    simp only at hs
    have hz := wordAt_len hw
    cases r with
    | error m => cases e
    | ok ws' =>
      cases e
      obtain ⟨h1, h2⟩ := ih ws' rfl
      refine ⟨by simp; omega, fun y hy => ?_⟩
      rcases List.mem_cons.1 hy with rfl | hy
      · simp; omega
      · have := h2 y hy; omega

theorem Lex.lines {l : List UInt8} {ln n : Nat} (h : Lex l ln (.bad n)) : n ≤ ln + l.length := by
  obtain ⟨rs, hrs⟩ : ∃ rs, rs = Rs.bad n := ⟨_, rfl⟩
  rw [← hrs] at h
  induction h using Lex.ind generalizing n with
  | done h => cases hrs
  | @bad l ln m x h hx hw =>
    cases hrs
    have hs := skip_le false l
    rw [h] at hs
    simp only at hs
    omega
  | @more l ln m x z w r h hw hr ih =>
    have hs := skip_le false l
    rw [h] at hs
    simp only at hs
    have hz := wordAt_len hw
    cases r with
    | error k => cases hrs; have := ih rfl; omega
    | ok ws => cases hrs

/-- A word some lines further down. -/
def sh (k : Nat) (x : Wd) : Wd := { x with line := x.line + k }

def shTo (k j : Nat) (ms : List Wd) : List Wd := (ms.take j).map (sh k) ++ ms.drop j

theorem shTo_len (k j : Nat) (ms : List Wd) : (shTo k j ms).length = ms.length := by simp [shTo]; omega

theorem shTo_zero (k : Nat) (ms : List Wd) : shTo k 0 ms = ms := by simp [shTo]

theorem shTo_all (k : Nat) {j : Nat} {ms : List Wd} (h : ms.length ≤ j) : shTo k j ms = ms.map (sh k) := by simp [shTo, List.take_of_length_le h, List.drop_eq_nil_of_le h]

theorem shTo_get {k j : Nat} {ms : List Wd} {x : Wd} (h : ms[j]? = some x) : (shTo k j ms)[j]? = some x := by
  have hj := (List.getElem?_eq_some_iff.1 h).1
  unfold shTo
  rw [List.getElem?_append_right (by simp; omega)]
  simp
  rw [Nat.min_eq_left (by omega)]
  simpa using h

theorem shTo_set {k j : Nat} {ms : List Wd} {x : Wd} (h : ms[j]? = some x) : (shTo k j ms).set j (sh k x) = shTo k (j + 1) ms := by
  have hj := (List.getElem?_eq_some_iff.1 h).1
  have hd : ms.drop j = x :: ms.drop (j + 1) := by
    have := (List.getElem?_eq_some_iff.1 h).2
    rw [← this, List.getElem_cons_drop]
  unfold shTo
  rw [hd, List.set_append_right _ _ (by simp; omega)]
  have e : j - ((ms.take j).map (sh k)).length = 0 := by simp; omega
  rw [e, List.set_cons_zero, List.take_add_one, h]
  simp

theorem IsWs.kept {p : Option Addr} {ws : List Wd} {w' : World} (h : IsWs w p ws) (hk : ∀ b0 off, p = some ⟨b0, off, none⟩ → w'.heap[b0]? = w.heap[b0]?) : IsWs w' p ws := by
  intro j x hj
  obtain ⟨b0, off, e, h1, h2, h3, h4⟩ := h j x hj
  have hb := hk b0 off e
  exact ⟨b0, off, e, (World.cell?_of_block (a := ⟨b0, off + j * 4, none⟩) hb).trans h1, (World.cell?_of_block (a := ⟨b0, off + j * 4 + 1, none⟩) hb).trans h2, (World.cell?_of_block (a := ⟨b0, off + j * 4 + 2, none⟩) hb).trans h3, (World.cell?_of_block (a := ⟨b0, off + j * 4 + 3, none⟩) hb).trans h4⟩

theorem cat10 (a : List UInt8) : bs a ++ (⟨#[10]⟩ : ByteArray) = bs (a ++ [10]) := bs_app a [10]

theorem take_count1 {l : List UInt8} {k : Nat} {c : UInt8} (h : l[k]? = some c) (hc : c.toNat = 10) : (l.take (k + 1)).count 10 = (l.take k).count 10 + 1 := by
  rw [take_count h, if_pos (eq10.2 hc)]

theorem take_count0 {l : List UInt8} {k : Nat} {c : UInt8} (h : l[k]? = some c) (hc : ¬ c.toNat = 10) : (l.take (k + 1)).count 10 = (l.take k).count 10 := by
  rw [take_count h, if_neg (fun e => hc (eq10.1 e)), Nat.add_zero]

set_option maxRecDepth 20000 in
set_option maxHeartbeats 2000000 in
theorem join_bb {a b : List UInt8} {n : Nat} (ha : Lex a 0 (.bad n)) {m : Nat} (hb : Lex b 0 (.bad m)) (hlen : a.length + b.length ≤ 65535) (h : Lx w) :
    Calls Tryd.prog 5 #[.string (bs a), .string (bs b)] w fun e w' => e = .returned (.bool true) ∧ Below w.heap.size w w' := by
  have HA := fun (W : World) (hB : Below w.heap.size w W) => alive_in (h.below hB)
  have hall : Lex (a ++ 10 :: b) 0 (.bad n) := by
    have h1 := hb.shift (a.count 10 + 1)
    have e : 0 + (a.count 10 + 1) = 0 + a.count 10 + 1 := by omega
    rw [e] at h1
    exact ha.join b _ h1
  have hcat : (a ++ 10 :: b).length ≤ 65536 := by simp; omega
  have hln := ha.lines
  have hlm := hb.lines
  have HWa := fun (W : World) (hB : Below w.heap.size w W) => words_bad (by omega) ha (h.below hB)
  have HWb := fun (W : World) (hB : Below w.heap.size w W) => words_bad (by omega) hb (h.below hB)
  have HWc := fun (W : World) (hB : Below w.heap.size w W) => words_bad hcat hall (h.below hB)
  have hsa := bs_size a
  have hsb := bs_size b
  have c1 := cat10 a
  have c2 : bs (a ++ [10]) ++ bs b = bs (a ++ 10 :: b) := by rw [bs_app]; simp
  have k10 : ((⟨#[10]⟩ : ByteArray)).size = 1 := rfl
  have y1 : ¬ (9223372036854775807 < a.length + 1) := by omega
  have hs1 : (bs (a ++ [10])).size = a.length + 1 := by rw [bs_size]; simp
  have y2 : ¬ (9223372036854775807 < a.length + 1 + b.length) := by omega
  have hq : ¬ ((65535 : Int) < (a.length : Int) + (b.length : Int)) := by omega
  have hca : a.count 10 ≤ a.length := List.count_le_length
  have hget : ∀ j (hj : j < (bs a).size), a[j]? = some ((bs a)[j]'hj) := fun j hj => bs_get hj
  have HG : Hid _ := hget
  clear hget hall
  generalize hba : bs a = ba at *
  generalize hbb : bs b = bb at *
  generalize hbc : bs (a ++ 10 :: b) = bc at *
  generalize bs (a ++ [10]) = bd at *
  clear hba hbb hbc
  go_enter Tryd.func5, Tryd.ntmps5
  go_wp2_with (first
    | (go_at_call 7; (with_reducible refine (HA _ (Below.refl _ _)).mono ?_); clear HA; rintro e w1 ⟨rfl, hB1⟩)
    | (go_at_call_of 6 (Value.string ba); (with_reducible refine (HWa _ hB1).mono ?_); clear HWa; rintro e w2 ⟨rfl, hB2⟩; have hB2' : Below w.heap.size w w2 := hB1.trans (hB2.mono hB1.size))
    | (go_at_call_of 6 (Value.string bb); (with_reducible refine (HWb _ hB2').mono ?_); clear HWb; rintro e w3 ⟨rfl, hB3⟩; have hB3' : Below w.heap.size w w3 := hB2'.trans (hB3.mono hB2'.size))
    | (go_at_call_of 6 (Value.string bc); (with_reducible refine (HWc _ hB3').mono ?_); clear HWc; rintro e w4 ⟨rfl, hB4⟩; have hB4' : Below w.heap.size w w4 := hB3'.trans (hB4.mono hB3'.size)))
  go_loopw [14, 15] (fun ln k wr => ∃ j : Nat, k = .int .i64 j ∧ j ≤ a.length ∧ ln = .int .i64 (((a.take j).count 10 : Nat) + 1 : Int) ∧ wr = w4) (fun _ k _ => a.length - (intOf k).toNat)
  case atStart => exact ⟨0, rfl, by omega, by simp, rfl⟩
  case round =>
    obtain ⟨j, rfl, hj, rfl, rfl⟩ := hrel
    have hcl : (a.take j).count 10 ≤ j := Nat.le_trans List.count_le_length (by rw [List.length_take]; exact Nat.min_le_left _ _)
    by_cases hjl : j < a.length
    · have hjs : j < ba.size := by omega
      have hc := HG.out j hjs
      have hjl' : (j : Int) < (a.length : Int) := by omega
      by_cases h10 : (ba[j]'hjs).toNat = 10
      · have q10 : ((ba[j]'hjs).toNat : Int) = 10 := by omega
        have ht := take_count1 hc h10
        have HT : Hid _ := ht
        clear ht hc h10
        generalize (a.take j).count 10 = cn at *
        go_wp2
        go_roundw
        case rel => exact ⟨j + 1, by simp, by omega, by rw [HT.out]; simp, by first | rfl | trivial⟩
        case measure => simp [intOf]; omega
      · have q10 : ¬ (((ba[j]'hjs).toNat : Int) = 10) := by omega
        have ht := take_count0 hc h10
        have HT : Hid _ := ht
        clear ht hc h10
        generalize (a.take j).count 10 = cn at *
        go_wp2
        go_roundw
        case rel => exact ⟨j + 1, by simp, by omega, by rw [HT.out], by first | rfl | trivial⟩
        case measure => simp [intOf]; omega
    · have hjl' : ¬ ((j : Int) < (a.length : Int)) := by omega
      have e : a.take j = a := List.take_of_length_le (by omega)
      rw [e] at hcl ⊢
      clear e
      generalize hcn : a.count 10 = cn at *
      go_wp2
      go_ret
      exact ⟨rfl, hB4'⟩

set_option maxRecDepth 20000 in
set_option maxHeartbeats 2000000 in
theorem join_bo {a b : List UInt8} {n : Nat} (ha : Lex a 0 (.bad n)) {ms : List Wd} (hb : Lex b 0 (.ok ms)) (hlen : a.length + b.length ≤ 65535) (h : Lx w) :
    Calls Tryd.prog 5 #[.string (bs a), .string (bs b)] w fun e w' => e = .returned (.bool true) ∧ Below w.heap.size w w' := by
  have HA := fun (W : World) (hB : Below w.heap.size w W) => alive_in (h.below hB)
  have hall : Lex (a ++ 10 :: b) 0 (.bad n) := by
    have h1 := hb.shift (a.count 10 + 1)
    have e : 0 + (a.count 10 + 1) = 0 + a.count 10 + 1 := by omega
    rw [e] at h1
    exact ha.join b _ h1
  have hcat : (a ++ 10 :: b).length ≤ 65536 := by simp; omega
  have hln := ha.lines
  obtain ⟨hml, hmline⟩ := hb.small ms rfl
  have HWa := fun (W : World) (hB : Below w.heap.size w W) => words_bad (by omega) ha (h.below hB)
  have HWb := fun (W : World) (hB : Below w.heap.size w W) => words_ok (by omega) hb (h.below hB)
  have HWc := fun (W : World) (hB : Below w.heap.size w W) => words_bad hcat hall (h.below hB)
  have hsa := bs_size a
  have hsb := bs_size b
  have c1 := cat10 a
  have c2 : bs (a ++ [10]) ++ bs b = bs (a ++ 10 :: b) := by rw [bs_app]; simp
  have k10 : ((⟨#[10]⟩ : ByteArray)).size = 1 := rfl
  have y1 : ¬ (9223372036854775807 < a.length + 1) := by omega
  have hs1 : (bs (a ++ [10])).size = a.length + 1 := by rw [bs_size]; simp
  have y2 : ¬ (9223372036854775807 < a.length + 1 + b.length) := by omega
  have hq : ¬ ((65535 : Int) < (a.length : Int) + (b.length : Int)) := by omega
  have hca : a.count 10 ≤ a.length := List.count_le_length
  have hget : ∀ j (hj : j < (bs a).size), a[j]? = some ((bs a)[j]'hj) := fun j hj => bs_get hj
  have HG : Hid _ := hget
  clear hget hall
  generalize hba : bs a = ba at *
  generalize hbb : bs b = bb at *
  generalize hbc : bs (a ++ 10 :: b) = bc at *
  generalize bs (a ++ [10]) = bd at *
  clear hba hbb hbc
  go_enter Tryd.func5, Tryd.ntmps5
  go_wp2_with (first
    | (go_at_call 7; (with_reducible refine (HA _ (Below.refl _ _)).mono ?_); clear HA; rintro e w1 ⟨rfl, hB1⟩)
    | (go_at_call_of 6 (Value.string ba); (with_reducible refine (HWa _ hB1).mono ?_); clear HWa; rintro e w2 ⟨rfl, hB2⟩; have hB2' : Below w.heap.size w w2 := hB1.trans (hB2.mono hB1.size))
    | (go_at_call_of 6 (Value.string bb); (with_reducible refine (HWb _ hB2').mono ?_); clear HWb; rintro e w3 ⟨q, cq, rfl, -, hrow3, hB3⟩; have hB3' : Below w.heap.size w w3 := hB2'.trans (hB3.mono hB2'.size))
    | (go_at_call_of 6 (Value.string bc); (with_reducible refine (HWc _ hB3').mono ?_); clear HWc; rintro e w4 ⟨rfl, hB4⟩; have hB4' : Below w.heap.size w w4 := hB3'.trans (hB4.mono hB3'.size)))
  go_loopw [14, 15] (fun ln k wr => ∃ j : Nat, k = .int .i64 j ∧ j ≤ a.length ∧ ln = .int .i64 (((a.take j).count 10 : Nat) + 1 : Int) ∧ wr = w4) (fun _ k _ => a.length - (intOf k).toNat)
  case atStart => exact ⟨0, rfl, by omega, by simp, rfl⟩
  case round =>
    obtain ⟨j, rfl, hj, rfl, rfl⟩ := hrel
    have hcl : (a.take j).count 10 ≤ j := Nat.le_trans List.count_le_length (by rw [List.length_take]; exact Nat.min_le_left _ _)
    by_cases hjl : j < a.length
    · have hjs : j < ba.size := by omega
      have hc := HG.out j hjs
      have hjl' : (j : Int) < (a.length : Int) := by omega
      by_cases h10 : (ba[j]'hjs).toNat = 10
      · have q10 : ((ba[j]'hjs).toNat : Int) = 10 := by omega
        have ht := take_count1 hc h10
        have HT : Hid _ := ht
        clear ht hc h10
        generalize (a.take j).count 10 = cn at *
        go_wp2
        go_roundw
        case rel => exact ⟨j + 1, by simp, by omega, by rw [HT.out]; simp, by first | rfl | trivial⟩
        case measure => simp [intOf]; omega
      · have q10 : ¬ (((ba[j]'hjs).toNat : Int) = 10) := by omega
        have ht := take_count0 hc h10
        have HT : Hid _ := ht
        clear ht hc h10
        generalize (a.take j).count 10 = cn at *
        go_wp2
        go_roundw
        case rel => exact ⟨j + 1, by simp, by omega, by rw [HT.out], by first | rfl | trivial⟩
        case measure => simp [intOf]; omega
    · have hjl' : ¬ ((j : Int) < (a.length : Int)) := by omega
      have e : a.take j = a := List.take_of_length_le (by omega)
      rw [e] at hcl ⊢
      clear e
      generalize hcn : a.count 10 = cn at *
      go_wp2
      go_ret
      exact ⟨rfl, hB4'⟩

set_option maxRecDepth 20000 in
set_option maxHeartbeats 2000000 in
theorem join_ob {a b : List UInt8} {ws : List Wd} (ha : Lex a 0 (.ok ws)) {m : Nat} (hb : Lex b 0 (.bad m)) (hlen : a.length + b.length ≤ 65535) (h : Lx w) :
    Calls Tryd.prog 5 #[.string (bs a), .string (bs b)] w fun e w' => e = .returned (.bool true) ∧ Below w.heap.size w w' := by
  have HA := fun (W : World) (hB : Below w.heap.size w W) => alive_in (h.below hB)
  have hall : Lex (a ++ 10 :: b) 0 (.bad (m + (a.count 10 + 1))) := by
    have h1 := hb.shift (a.count 10 + 1)
    have e : 0 + (a.count 10 + 1) = 0 + a.count 10 + 1 := by omega
    rw [e] at h1
    exact ha.join b _ h1
  have hcat : (a ++ 10 :: b).length ≤ 65536 := by simp; omega
  obtain ⟨hwl, -⟩ := ha.small ws rfl
  have hlm := hb.lines
  have HWa := fun (W : World) (hB : Below w.heap.size w W) => words_ok (by omega) ha (h.below hB)
  have HWb := fun (W : World) (hB : Below w.heap.size w W) => words_bad (by omega) hb (h.below hB)
  have HWc := fun (W : World) (hB : Below w.heap.size w W) => words_bad hcat hall (h.below hB)
  have hsa := bs_size a
  have hsb := bs_size b
  have c1 := cat10 a
  have c2 : bs (a ++ [10]) ++ bs b = bs (a ++ 10 :: b) := by rw [bs_app]; simp
  have k10 : ((⟨#[10]⟩ : ByteArray)).size = 1 := rfl
  have y1 : ¬ (9223372036854775807 < a.length + 1) := by omega
  have hs1 : (bs (a ++ [10])).size = a.length + 1 := by rw [bs_size]; simp
  have y2 : ¬ (9223372036854775807 < a.length + 1 + b.length) := by omega
  have hq : ¬ ((65535 : Int) < (a.length : Int) + (b.length : Int)) := by omega
  have hca : a.count 10 ≤ a.length := List.count_le_length
  have hget : ∀ j (hj : j < (bs a).size), a[j]? = some ((bs a)[j]'hj) := fun j hj => bs_get hj
  have HG : Hid _ := hget
  clear hget hall
  generalize hba : bs a = ba at *
  generalize hbb : bs b = bb at *
  generalize hbc : bs (a ++ 10 :: b) = bc at *
  generalize bs (a ++ [10]) = bd at *
  clear hba hbb hbc
  go_enter Tryd.func5, Tryd.ntmps5
  go_wp2_with (first
    | (go_at_call 7; (with_reducible refine (HA _ (Below.refl _ _)).mono ?_); clear HA; rintro e w1 ⟨rfl, hB1⟩)
    | (go_at_call_of 6 (Value.string ba); (with_reducible refine (HWa _ hB1).mono ?_); clear HWa; rintro e w2 ⟨p, c, rfl, -, hrow2, hB2⟩; have hB2' : Below w.heap.size w w2 := hB1.trans (hB2.mono hB1.size))
    | (go_at_call_of 6 (Value.string bb); (with_reducible refine (HWb _ hB2').mono ?_); clear HWb; rintro e w3 ⟨rfl, hB3⟩; have hB3' : Below w.heap.size w w3 := hB2'.trans (hB3.mono hB2'.size))
    | (go_at_call_of 6 (Value.string bc); (with_reducible refine (HWc _ hB3').mono ?_); clear HWc; rintro e w4 ⟨rfl, hB4⟩; have hB4' : Below w.heap.size w w4 := hB3'.trans (hB4.mono hB3'.size)))
  go_loopw [14, 15] (fun ln k wr => ∃ j : Nat, k = .int .i64 j ∧ j ≤ a.length ∧ ln = .int .i64 (((a.take j).count 10 : Nat) + 1 : Int) ∧ wr = w4) (fun _ k _ => a.length - (intOf k).toNat)
  case atStart => exact ⟨0, rfl, by omega, by simp, rfl⟩
  case round =>
    obtain ⟨j, rfl, hj, rfl, rfl⟩ := hrel
    have hcl : (a.take j).count 10 ≤ j := Nat.le_trans List.count_le_length (by rw [List.length_take]; exact Nat.min_le_left _ _)
    by_cases hjl : j < a.length
    · have hjs : j < ba.size := by omega
      have hc := HG.out j hjs
      have hjl' : (j : Int) < (a.length : Int) := by omega
      by_cases h10 : (ba[j]'hjs).toNat = 10
      · have q10 : ((ba[j]'hjs).toNat : Int) = 10 := by omega
        have ht := take_count1 hc h10
        have HT : Hid _ := ht
        clear ht hc h10
        generalize (a.take j).count 10 = cn at *
        go_wp2
        go_roundw
        case rel => exact ⟨j + 1, by simp, by omega, by rw [HT.out]; simp, by first | rfl | trivial⟩
        case measure => simp [intOf]; omega
      · have q10 : ¬ (((ba[j]'hjs).toNat : Int) = 10) := by omega
        have ht := take_count0 hc h10
        have HT : Hid _ := ht
        clear ht hc h10
        generalize (a.take j).count 10 = cn at *
        go_wp2
        go_roundw
        case rel => exact ⟨j + 1, by simp, by omega, by rw [HT.out], by first | rfl | trivial⟩
        case measure => simp [intOf]; omega
    · have hjl' : ¬ ((j : Int) < (a.length : Int)) := by omega
      have e : a.take j = a := List.take_of_length_le (by omega)
      rw [e] at hcl ⊢
      clear e
      generalize hcn : a.count 10 = cn at *
      go_wp2
      go_ret
      exact ⟨by first | rfl | (simp; omega) | simp, hB4'⟩

set_option maxRecDepth 20000 in
set_option maxHeartbeats 2000000 in
theorem join_oo {a b : List UInt8} {ws : List Wd} (ha : Lex a 0 (.ok ws)) {ms : List Wd} (hb : Lex b 0 (.ok ms)) (hlen : a.length + b.length ≤ 65535) (h : Lx w) :
    Calls Tryd.prog 5 #[.string (bs a), .string (bs b)] w fun e w' => e = .returned (.bool true) ∧ Below w.heap.size w w' := by
  have HA := fun (W : World) (hB : Below w.heap.size w W) => alive_in (h.below hB)
  have hall : Lex (a ++ 10 :: b) 0 (.ok (ws ++ ms.map (sh (a.count 10 + 1)))) := by
    have h1 := hb.shift (a.count 10 + 1)
    have e : 0 + (a.count 10 + 1) = 0 + a.count 10 + 1 := by omega
    rw [e] at h1
    exact ha.join b _ h1
  have hcat : (a ++ 10 :: b).length ≤ 65536 := by simp; omega
  obtain ⟨hwl, -⟩ := ha.small ws rfl
  obtain ⟨hml, hmline⟩ := hb.small ms rfl
  have HWa := fun (W : World) (hB : Below w.heap.size w W) => words_ok (by omega) ha (h.below hB)
  have HWb := fun (W : World) (hB : Below w.heap.size w W) => words_ok (by omega) hb (h.below hB)
  have HWc := fun (W : World) (hB : Below w.heap.size w W) => words_ok hcat hall (h.below hB)
  have hsa := bs_size a
  have hsb := bs_size b
  have c1 := cat10 a
  have c2 : bs (a ++ [10]) ++ bs b = bs (a ++ 10 :: b) := by rw [bs_app]; simp
  have k10 : ((⟨#[10]⟩ : ByteArray)).size = 1 := rfl
  have y1 : ¬ (9223372036854775807 < a.length + 1) := by omega
  have hs1 : (bs (a ++ [10])).size = a.length + 1 := by rw [bs_size]; simp
  have y2 : ¬ (9223372036854775807 < a.length + 1 + b.length) := by omega
  have hq : ¬ ((65535 : Int) < (a.length : Int) + (b.length : Int)) := by omega
  have hca : a.count 10 ≤ a.length := List.count_le_length
  have hget : ∀ j (hj : j < (bs a).size), a[j]? = some ((bs a)[j]'hj) := fun j hj => bs_get hj
  have HG : Hid _ := hget
  clear hget hall
  generalize hba : bs a = ba at *
  generalize hbb : bs b = bb at *
  generalize hbc : bs (a ++ 10 :: b) = bc at *
  generalize bs (a ++ [10]) = bd at *
  clear hba hbb hbc
  go_enter Tryd.func5, Tryd.ntmps5
  go_wp2_with (first
    | (go_at_call 7; (with_reducible refine (HA _ (Below.refl _ _)).mono ?_); clear HA; rintro e w1 ⟨rfl, hB1⟩)
    | (go_at_call_of 6 (Value.string ba); (with_reducible refine (HWa _ hB1).mono ?_); clear HWa; rintro e w2 ⟨p, c, rfl, -, hrow2, hB2⟩; have hB2' : Below w.heap.size w w2 := hB1.trans (hB2.mono hB1.size))
    | (go_at_call_of 6 (Value.string bb); (with_reducible refine (HWb _ hB2').mono ?_); clear HWb; rintro e w3 ⟨q, cq, rfl, -, hrow3, hB3⟩; have hB3' : Below w.heap.size w w3 := hB2'.trans (hB3.mono hB2'.size))
    | (go_at_call_of 6 (Value.string bc); (with_reducible refine (HWc _ hB3').mono ?_); clear HWc; rintro e w4 ⟨r, cr, rfl, hws4, hrow4, hB4⟩; have hB4' : Below w.heap.size w w4 := hB3'.trans (hB4.mono hB3'.size)))
  go_loopw [14, 15] (fun ln k wr => ∃ j : Nat, k = .int .i64 j ∧ j ≤ a.length ∧ ln = .int .i64 (((a.take j).count 10 : Nat) + 1 : Int) ∧ wr = w4) (fun _ k _ => a.length - (intOf k).toNat)
  case atStart => exact ⟨0, rfl, by omega, by simp, rfl⟩
  case round =>
    obtain ⟨j, rfl, hj, rfl, rfl⟩ := hrel
    have hcl : (a.take j).count 10 ≤ j := Nat.le_trans List.count_le_length (by rw [List.length_take]; exact Nat.min_le_left _ _)
    by_cases hjl : j < a.length
    · have hjs : j < ba.size := by omega
      have hc := HG.out j hjs
      have hjl' : (j : Int) < (a.length : Int) := by omega
      by_cases h10 : (ba[j]'hjs).toNat = 10
      · have q10 : ((ba[j]'hjs).toNat : Int) = 10 := by omega
        have ht := take_count1 hc h10
        have HT : Hid _ := ht
        clear ht hc h10
        generalize (a.take j).count 10 = cn at *
        go_wp2
        go_roundw
        case rel => exact ⟨j + 1, by simp, by omega, by rw [HT.out]; simp, by first | rfl | trivial⟩
        case measure => simp [intOf]; omega
      · have q10 : ¬ (((ba[j]'hjs).toNat : Int) = 10) := by omega
        have ht := take_count0 hc h10
        have HT : Hid _ := ht
        clear ht hc h10
        generalize (a.take j).count 10 = cn at *
        go_wp2
        go_roundw
        case rel => exact ⟨j + 1, by simp, by omega, by rw [HT.out], by first | rfl | trivial⟩
        case measure => simp [intOf]; omega
    · have hjl' : ¬ ((j : Int) < (a.length : Int)) := by omega
      have e : a.take j = a := List.take_of_length_le (by omega)
      rw [e] at hcl ⊢
      clear e
      generalize hcn : a.count 10 = cn at *
      obtain ⟨wo, hwo⟩ : ∃ x, x = wr := ⟨_, rfl⟩
      subst hwo
      have hnil : q = none → cq = 0 := fun hqn => by
        rcases hrow3.2 with ⟨hv, _⟩ | ⟨g, cap, cur, hv, _⟩
        · simp only [Value.slice.injEq] at hv; exact hv.2.2
        · rw [hqn] at hv; simp at hv
      have hqg : 0 < ms.length → ∃ g, q = some ⟨g, 0, none⟩ := fun h0 => by
        rcases hrow3.2 with ⟨hv, hz⟩ | ⟨g, cap, cur, hv, _⟩
        · omega
        · simp only [Value.slice.injEq] at hv; exact ⟨g, hv.1⟩
      have hsz2 := hB2.size
      have hsz3 := hB3.size
      have hsz4 := hB4.size
      have hR2 : wo.ownsRow w1.heap.size 30 4 (.slice p ws.length c) ws.length (wcells ws) := row_below (row_below hrow2 hB3) hB4
      have hR3 : wo.ownsRow w2.heap.size 30 4 (.slice q ms.length cq) ms.length (wcells ms) := row_below hrow3 hB4
      have hp2 : ∀ k, (Value.slice p ws.length c).ownBlock = some k → k < w2.heap.size := fun k e => (hrow2.lt k e).2
      have hq3 : ∀ k, (Value.slice q ms.length cq).ownBlock = some k → w2.heap.size ≤ k ∧ k < w3.heap.size := fun k e => hrow3.lt k e
      have hr4 : ∀ b0 off, r = some ⟨b0, off, none⟩ → w3.heap.size ≤ b0 := fun b0 off e => (hrow4.lt b0 (by rw [e]; rfl)).1
      have hb1 := hB1.size
      have hml2 : (ms.map (sh (cn + 1))).length = ms.length := by simp
      have hlr : (ws ++ ms.map (sh (cn + 1))).length = ws.length + ms.length := by simp
      have HR : Hid _ := And.intro hR2 (And.intro hp2 (And.intro hq3 (And.intro hr4 (And.intro hws4 (And.intro hlr (And.intro hml2 (And.intro hB1 hB4')))))))
      clear hrow2 hrow3 hrow4 hR2 hp2 hq3 hr4 hws4 hlr hB2 hB3 hB4 hB2' hB3' ha hb hml2 hcl
      go_wp2
      go_loopw [16] (fun k wx => ∃ j : Nat, k = .int .i64 j ∧ j ≤ ms.length ∧ wx.ownsRow w2.heap.size 30 4 (.slice q ms.length cq) ms.length (wcells (shTo (cn + 1) j ms)) ∧ (wx.os = wo.os ∧ wx.tape = wo.tape ∧ wx.output = wo.output ∧ wx.heap.size = wo.heap.size ∧ ∀ k, (Value.slice q ms.length cq).ownBlock ≠ some k → wx.heap[k]? = wo.heap[k]?)) (fun k _ => ms.length - (intOf k).toNat)
      case atStart => exact ⟨0, rfl, by omega, by rw [shTo_zero]; exact hR3, rfl, rfl, rfl, rfl, fun _ _ => rfl⟩
      case round =>
        obtain ⟨j, rfl, hj, hrow, hfr⟩ := hrel
        by_cases hjl : j < ms.length
        · have hjl' : (j : Int) < (ms.length : Int) := by omega
          obtain ⟨g, rfl⟩ := hqg (by omega)
          obtain ⟨x, hx⟩ : ∃ x, ms[j]? = some x := ⟨ms[j], by simp⟩
          have hxl := hmline x (List.mem_of_getElem? hx)
          have hx2 := shTo_get (k := cn + 1) hx
          have hsl := shTo_len (cn + 1) j ms
          have hrow' : wr.ownsRow w2.heap.size 30 4 (.slice (some ⟨g, 0, none⟩) (shTo (cn + 1) j ms).length cq) (shTo (cn + 1) j ms).length (wcells (shTo (cn + 1) j ms)) := by rw [hsl]; exact hrow
          have hset := row_line (n := x.line + (cn + 1)) hrow' hx2
          rw [hsl] at hset
          have hcast : ((x.line + (cn + 1) : Nat) : Int) = (x.line : Int) + ((cn : Int) + 1) := by omega
          rw [hcast] at hset
          have hst : (shTo (cn + 1) j ms).set j { x with line := x.line + (cn + 1) } = shTo (cn + 1) (j + 1) ms := shTo_set hx
          rw [hst] at hset
          have hcell : wr.cell? ⟨g, j * 4 + 3, none⟩ = some (.int .i64 x.line) := by
            have := hrow'.cells (g := g) rfl _ _ (wcells_get hx2).2.2.2
            rwa [Addr.add_mid, Nat.zero_add] at this
          have hfz : wr.frozen? ⟨g, j * 4 + 3, none⟩ = false := by
            obtain ⟨cur, hcur⟩ := row_obj hrow (k := g) rfl
            exact frozen_of_row wr g (j * 4 + 3) _ _ hcur
          have HF : Hid _ := And.intro hset hfr
          clear hset hfr hst hcast hrow' hrow hx2 hsl hx
          go_wp2
          go_roundw
          case rel =>
            obtain ⟨hset, hfr⟩ := HF.out
            refine ⟨j + 1, by simp, by omega, hset, hfr.1, hfr.2.1, hfr.2.2.1, by rw [← hfr.2.2.2.1]; simp [World.setCell], fun k hk => ?_⟩
            refine (heap_setCell_other wr ⟨g, j * 4 + 3, none⟩ k _ (fun e => hk (by rw [e]; rfl))).trans (hfr.2.2.2.2 k hk)
          case measure => simp [intOf]; omega
        · have hjl' : ¬ ((j : Int) < (ms.length : Int)) := by omega
          rw [shTo_all (cn + 1) (by omega : ms.length ≤ j)] at hrow
          obtain ⟨hR2, hp2, hq3, hr4, hws4, hlr, hml2, hB1x, hB4x⟩ := HR.out
          have hRp : wr.ownsRow w1.heap.size 30 4 (.slice p ws.length c) ws.length (wcells ws) := row_kept hR2 (fun k e => hfr.2.2.2.2 k (fun e2 => by have := hp2 k e; have := (hq3 k e2).1; omega))
          have hwsq : IsWs wr q (ms.map (sh (cn + 1))) := by
            rw [← hml2] at hrow
            obtain ⟨q', c', e, hw⟩ := ws_of_row hrow
            simp only [Value.slice.injEq] at e
            rw [e.1]
            exact hw
          have hwsr : IsWs wr r (ws ++ ms.map (sh (cn + 1))) := hws4.kept (fun b0 off e => hfr.2.2.2.2 b0 (fun e2 => by have := hr4 b0 off e; have := (hq3 b0 e2).2; omega))
          have hBr : Below w.heap.size w wr := ⟨hfr.1.trans hB4x.os, hfr.2.1.trans hB4x.tape, hfr.2.2.1.trans hB4x.output, by rw [hfr.2.2.2.1]; exact hB4x.size, fun k hk => (hfr.2.2.2.2 k (fun e => by have := (hq3 k e).1; omega)).trans (hB4x.block k hk)⟩
          have hszr : w3.heap.size ≤ wr.heap.size := by rw [hfr.2.2.2.1]; exact hsz4
          have HX : Hid _ := And.intro hwsr (And.intro hp2 (And.intro hr4 hlr))
          have hle : ws.length ≤ 65535 := by omega
          clear hR2 hp2 hq3 hr4 hws4 hlr hrow hfr HR hwsr hR3
          go_wp2_with (first
            | (at_builtin; (refine wpList_append_words rfl _ _ rfl w1.heap.size (.slice p ws.length c) ws.length (wcells ws) rfl hRp (ms.map (sh (cn + 1))) q cq (by rw [hml2]; rfl) hwsq hnil (by rw [hml2]; unfold maxLen; omega) (by rw [hml2]; omega) (by omega) ?_); intro v5 w5 hown5 hg5; refine halt_here ?_))
          unfold Halted
          obtain ⟨hwsr, hp2, hr4, hlr⟩ := HX.out
          have hown6 : w5.ownsRow w1.heap.size 30 4 v5 (ws ++ ms.map (sh (cn + 1))).length (wcells (ws ++ ms.map (sh (cn + 1)))) := by rw [List.length_append, wcells_app]; exact hown5
          obtain ⟨p5, c5, rfl, hws5⟩ := ws_of_row hown6
          have hwr5 : IsWs w5 r (ws ++ ms.map (sh (cn + 1))) := fun j x hj => by
            obtain ⟨b0, off, e, h1, h2, h3, h4⟩ := hwsr j x hj
            have hb := hg5.block b0 (World.block_lt_of_cell? wr _ h1) (fun e2 => by have := hp2 b0 e2.symm; have := hr4 b0 off e; omega)
            exact ⟨b0, off, e, (World.cell?_of_block (a := ⟨b0, off + j * 4, none⟩) hb).trans h1, (World.cell?_of_block (a := ⟨b0, off + j * 4 + 1, none⟩) hb).trans h2, (World.cell?_of_block (a := ⟨b0, off + j * 4 + 2, none⟩) hb).trans h3, (World.cell?_of_block (a := ⟨b0, off + j * 4 + 3, none⟩) hb).trans h4⟩
          have HS := sameWords_in (w := w5) (ws := ws ++ ms.map (sh (cn + 1))) cr c5 (by omega) hwr5 hws5
          have hB5 : Below w.heap.size w w5 := hBr.trans (rbelow_grown hg5 (fun k e => by have := (hRp.lt k e).1; omega) (by omega))
          rw [hlr] at HS ⊢
          clear hwsr hp2 hr4 hlr HX hown5 hown6 hws5 hwr5 hg5 hRp hwsq
          go_wp2_with (first
            | (go_at_call 11; (with_reducible refine HS.mono ?_); clear HS; rintro e w6 ⟨rfl, hB6⟩))
          go_ret
          exact ⟨rfl, hB5.trans (hB6.mono hB5.size)⟩

set_option maxHeartbeats 1000000 in
theorem lexJoins_walk (a b : List UInt8) (hla : a.length ≤ 140737488355328) (hlb : b.length ≤ 140737488355328) (h : Lx w) :
    Calls Tryd.prog 5 #[.string (bs a), .string (bs b)] w fun e w' => e = .returned (.bool true) ∧ Below w.heap.size w w' := by
  by_cases hlen : a.length + b.length ≤ 65535
  · obtain ⟨ra, ha⟩ := Lex.total a 0
    obtain ⟨rb, hb⟩ := Lex.total b 0
    cases ra with
    | error n =>
      cases rb with
      | error m => exact join_bb ha hb hlen h
      | ok ms => exact join_bo ha hb hlen h
    | ok ws =>
      cases rb with
      | error m => exact join_ob ha hb hlen h
      | ok ms => exact join_oo ha hb hlen h
  · have HA := fun (W : World) (hB : Below w.heap.size w W) => alive_in (h.below hB)
    have hsa := bs_size a
    have hsb := bs_size b
    have hq : (65535 : Int) < (a.length : Int) + (b.length : Int) := by omega
    go_enter Tryd.func5, Tryd.ntmps5
    go_wp2_with (first
      | (go_at_call 7; (with_reducible refine (HA _ (Below.refl _ _)).mono ?_); rintro e w1 ⟨rfl, hB1⟩; refine halt_here ?_))
    unfold Halted
    go_wp2_with (first
      | (go_at_call 7; (with_reducible refine (HA _ hB1).mono ?_); rintro e w2 ⟨rfl, hB2⟩))
    go_ret
    exact ⟨rfl, hB1.trans (hB2.mono hB1.size)⟩

end Go.Proofs.YtpbempnenjfjdaaDoor
