/- The document's heap (package gearboxref01) in memory; its calls that only look. -/
import Derived.Test.YtampilfebmfhaaaGreatDoorModel
namespace Go.Proofs.YtampilfebmfhaaaGreatDoor
open Go.RowKit

/-- The cells of the document's objects: each with the slice of its words. -/
def rcells : List (Ob × Value) → List Value
  | [] => []
  | x :: r => .int .i64 x.1.at_ :: .int .u8 x.1.kind :: x.2 :: rcells r

theorem rcells_len : ∀ (R : List (Ob × Value)), (rcells R).length = R.length * 3
  | [] => rfl
  | x :: r => by simp [rcells, rcells_len r]; omega

theorem rcells_append : ∀ (R S : List (Ob × Value)), rcells (R ++ S) = rcells R ++ rcells S
  | [], _ => rfl
  | x :: r, S => by simp [rcells, rcells_append r S]

theorem rcells_get : ∀ (R : List (Ob × Value)) (j : Nat) (x : Ob × Value), R[j]? = some x → (rcells R)[j * 3]? = some (.int .i64 x.1.at_) ∧ (rcells R)[j * 3 + 1]? = some (.int .u8 x.1.kind) ∧ (rcells R)[j * 3 + 2]? = some x.2
  | [], j, x, h => by simp at h
  | y :: r, 0, x, h => by simp at h; subst h; simp [rcells]
  | y :: r, j + 1, x, h => by
    have := rcells_get r j x (by simpa using h)
    rw [show (j + 1) * 3 = j * 3 + 3 by omega]
    simpa [rcells] using this

/-- The document's heap at block br. -/
structure IsRf (n₀ br : Nat) (vo : Value) (w : World) (all en : Nat) (R : List (Ob × Value)) : Prop where
  base : n₀ ≤ br
  blk : w.heap[br]? = some (.cells #[.int .i64 all, .int .i64 en, vo] 88 (0, 0))
  row : w.ownsRow n₀ 85 3 vo R.length (rcells R)
  wrds : ∀ x ∈ R, w.ownsRow n₀ 71 1 x.2 x.1.ws.length (x.1.ws.map wv) ∧ ∃ g, x.2.ownBlock = some g
  nod : (R.map (fun x => x.2.ownBlock)).Nodup
  le : R.length ≤ 1048576
  bnd : ∀ x ∈ R, x.1.at_ < 1048576 ∧ x.1.ws.length < 1048576 ∧ x.1.kind < 256
  en20 : en ≤ all
  all20 : all ≤ 1048576

namespace IsRf

variable {n₀ br all en : Nat} {vo : Value} {w : World} {R : List (Ob × Value)}

theorem lt (h : IsRf n₀ br vo w all en R) : br < w.heap.size := (Array.getElem?_eq_some_iff.1 h.blk).1

theorem c0 (h : IsRf n₀ br vo w all en R) : w.cell? ⟨br, 0, none⟩ = some (.int .i64 all) := by rw [cell_of_row w br 0 _ _ _ h.blk]; rfl

theorem c1 (h : IsRf n₀ br vo w all en R) : w.cell? ⟨br, 1, none⟩ = some (.int .i64 en) := by rw [cell_of_row w br 1 _ _ _ h.blk]; rfl

theorem c2 (h : IsRf n₀ br vo w all en R) : w.cell? ⟨br, 2, none⟩ = some vo := by rw [cell_of_row w br 2 _ _ _ h.blk]; rfl

theorem f (h : IsRf n₀ br vo w all en R) (j : Nat) : w.frozen? ⟨br, j, none⟩ = false := frozen_of_row w br j _ _ h.blk

theorem row_some3 {w : World} {base e : Nat} {v : Value} {n : Nat} {xs : List Value} (h : w.ownsRow base e 3 v n xs) : ∃ p c, v = .slice p n c ∧ n ≤ c ∧ c ≤ maxLen ∧ (0 < n → ∃ g, p = some ⟨g, 0, none⟩) := by
  rcases h.2 with ⟨rfl, rfl⟩ | ⟨g, cap, cur, rfl, _, _, h1, h2, _⟩
  · exact ⟨none, 0, rfl, Nat.le_refl _, by unfold maxLen; omega, fun h => by omega⟩
  · exact ⟨_, _, rfl, h1, h2, fun _ => ⟨g, rfl⟩⟩

/-- An element's three cells. -/
theorem elem {g c : Nat} (h : IsRf n₀ br (.slice (some ⟨g, 0, none⟩) R.length c) w all en R) {j : Nat} {x : Ob × Value} (hj : R[j]? = some x) :
    w.cell? ⟨g, j * 3, none⟩ = some (.int .i64 x.1.at_) ∧ w.cell? ⟨g, j * 3 + 1, none⟩ = some (.int .u8 x.1.kind) ∧ w.cell? ⟨g, j * 3 + 2, none⟩ = some x.2 := by
  have hlt : j < R.length := (List.getElem?_eq_some_iff.1 hj).1
  obtain ⟨h1, h2, h3⟩ := rcells_get R j x hj
  exact ⟨by rw [h.row.cellAt _ (by omega)]; exact h1, by rw [h.row.cellAt _ (by omega)]; exact h2, by rw [h.row.cellAt _ (by omega)]; exact h3⟩

theorem row_type3 {w : World} {base e : Nat} {v : Value} {n : Nat} {xs : List Value} (h : w.ownsRow base e 3 v n xs) {k : Nat} (hk : v.ownBlock = some k) : ∃ cur, w.heap[k]? = some (.cells cur e (0, 0)) := by
  rcases h.2 with ⟨rfl, rfl⟩ | ⟨g, cap, cur, rfl, _, hg, _⟩
  · simp [Value.ownBlock] at hk
  · simp [Value.ownBlock] at hk; subst hk; exact ⟨cur, hg⟩

/-- The blocks of the document's heap. -/
def mine (br : Nat) (vo : Value) (R : List (Ob × Value)) (k : Nat) : Prop := k = br ∨ vo.ownBlock = some k ∨ ∃ x ∈ R, x.2.ownBlock = some k

theorem blocks (h : IsRf n₀ br vo w all en R) {k : Nat} (hk : mine br vo R k) : n₀ ≤ k ∧ k < w.heap.size ∧ ∃ cur t, w.heap[k]? = some (.cells cur t (0, 0)) ∧ (t = 88 ∨ t = 85 ∨ t = 71) := by
  rcases hk with rfl | e | ⟨x, hx, e⟩
  · exact ⟨h.base, h.lt, _, _, h.blk, .inl rfl⟩
  · obtain ⟨cur, hc⟩ := row_type3 h.row e
    exact ⟨(h.row.lt k e).1, (h.row.lt k e).2, cur, 85, hc, .inr (.inl rfl)⟩
  · obtain ⟨cur, hc⟩ := IsAr.row_type (h.wrds x hx).1 e
    exact ⟨((h.wrds x hx).1.lt k e).1, ((h.wrds x hx).1.lt k e).2, cur, 71, hc, .inr (.inr rfl)⟩

theorem row_kept {w w' : World} {base e size : Nat} {v : Value} {n : Nat} {xs : List Value} (h : w.ownsRow base e size v n xs) (hk : ∀ k, v.ownBlock = some k → w'.heap[k]? = w.heap[k]?) : w'.ownsRow base e size v n xs := by
  refine ⟨h.1, ?_⟩
  rcases h.2 with hn | ⟨g, cap, cur, rfl, hb, hgg, rest⟩
  · exact .inl hn
  · exact .inr ⟨g, cap, cur, rfl, hb, by rw [hk g rfl]; exact hgg, rest⟩

theorem kept (h : IsRf n₀ br vo w all en R) {w' : World} (hk : ∀ k, mine br vo R k → w'.heap[k]? = w.heap[k]?) : IsRf n₀ br vo w' all en R :=
  ⟨h.base, (hk br (.inl rfl)).trans h.blk, row_kept h.row (fun k e => hk k (.inr (.inl e))), fun x hx => ⟨row_kept (h.wrds x hx).1 (fun k e => hk k (.inr (.inr ⟨x, hx, e⟩))), (h.wrds x hx).2⟩, h.nod, h.le, h.bnd, h.en20, h.all20⟩

theorem below (h : IsRf n₀ br vo w all en R) {w' : World} (hB : Below w.heap.size w w') : IsRf n₀ br vo w' all en R :=
  h.kept (fun k hk => hB.block k (h.blocks hk).2.1)

theorem drewN (h : IsRf n₀ br vo w all en R) (q : Nat) : IsRf n₀ br vo (w.drewN q) all en R := h.kept (fun _ _ => rfl)

end IsRf

variable {n₀ br all en : Nat} {vo : Value} {w : World} {R : List (Ob × Value)}

set_option maxHeartbeats 400000 in
theorem rnew_bad (n : Int) (w : World) (h : n < 1 ∨ 1048576 < n) : Calls Tryz.prog 19 #[.int .i64 n] w fun e w' => e = .returned (.tuple #[.pointer none, .int .i64 1]) ∧ w' = w := by
  rcases h with h | h
  · go_enter Tryz.func19, Tryz.ntmps19
    go_wp2
    go_ret2
    exact ⟨rfl, rfl⟩
  · have h' : ¬ n < 1 := by omega
    go_enter Tryz.func19, Tryz.ntmps19
    go_wp2
    go_ret2
    exact ⟨rfl, rfl⟩

set_option maxHeartbeats 400000 in
theorem rnew_in (n : Nat) (w : World) (h1 : 1 ≤ n) (h2 : n ≤ 1048576) : Calls Tryz.prog 19 #[.int .i64 n] w fun e w' => ∃ br, e = .returned (.tuple #[.pointer (some ⟨br, 0, none⟩), .int .i64 0]) ∧
    IsRf w.heap.size br (.slice none 0 0) w' n 0 [] ∧ Below w.heap.size w w' := by
  go_enter Tryz.func19, Tryz.ntmps19
  go_wp2
  go_ret2
  refine ⟨w.heap.size, rfl, ⟨Nat.le_refl _, heap_alloc_new w _, World.ownsRow_nil _ _ _ _, by simp, by simp, by simp, by simp, by omega, h2⟩, (Below.refl _ _).alloc (Nat.le_refl _) _⟩

set_option maxHeartbeats 400000 in
theorem rused_in (h : IsRf n₀ br vo w all en R) : Calls Tryz.prog 27 #[.pointer (some ⟨br, 0, none⟩)] w fun e w' => e = .returned (.int .i64 en) ∧ w' = w := by
  have hc := h.c1
  clear h
  go_enter Tryz.func27, Tryz.ntmps27
  go_wp2
  go_ret
  exact ⟨rfl, rfl⟩

set_option maxHeartbeats 400000 in
theorem rwords_in (h : IsRf n₀ br vo w all en R) : Calls Tryz.prog 29 #[.pointer (some ⟨br, 0, none⟩)] w fun e w' => e = .returned (.int .i64 all) ∧ w' = w := by
  have hc := h.c0
  clear h
  go_enter Tryz.func29, Tryz.ntmps29
  go_wp2
  go_ret
  exact ⟨rfl, rfl⟩

/-- Find: the first object that begins there. -/
def findR (i : Int) : List (Ob × Value) → Int
  | [] => -1
  | x :: r => if (x.1.at_ : Int) = i then 0 else if findR i r = -1 then -1 else findR i r + 1

theorem findR_none {i : Int} : ∀ {R : List (Ob × Value)}, (∀ x ∈ R, (x.1.at_ : Int) ≠ i) → findR i R = -1
  | [], _ => rfl
  | x :: r, h => by
    have ih := findR_none (R := r) (fun y hy => h y (List.mem_cons_of_mem _ hy))
    simp [findR, h x (by simp), ih]

theorem findR_at {i : Int} : ∀ {l r : List (Ob × Value)} {x : Ob × Value}, (∀ y ∈ l, (y.1.at_ : Int) ≠ i) → (x.1.at_ : Int) = i → findR i (l ++ x :: r) = l.length
  | [], _, _, _, h => by simp [findR, h]
  | y :: l, r, x, h, hx => by
    have ih := findR_at (l := l) (r := r) (fun z hz => h z (by simp [hz])) hx
    simp [findR, h y (by simp), ih]

set_option maxRecDepth 20000 in
set_option maxHeartbeats 1000000 in
theorem find_r (h : IsRf n₀ br vo w all en R) (i : Int) : Calls Tryz.prog 178 #[.pointer (some ⟨br, 0, none⟩), .int .i64 i] w fun e w' => e = .returned (.int .i64 (findR i R)) ∧ w' = w := by
  have hc := h.c2
  have hle := h.le
  obtain ⟨p, c, rfl, _, _, hp⟩ := IsRf.row_some3 h.row
  go_enter Tryz.func178, Tryz.ntmps178
  go_wp2
  go_loop [5] (fun k => ∃ (l r : List (Ob × Value)), R = l ++ r ∧ k = .int .i64 l.length ∧ (∀ y ∈ l, (y.1.at_ : Int) ≠ i)) (fun k => R.length - (intOf k).toNat)
  case atStart => exact ⟨[], R, rfl, rfl, by simp⟩
  case round =>
    obtain ⟨l, r, hR, rfl, hl⟩ := hrel
    cases r with
    | nil =>
      have hR' : R = l := by simpa using hR
      have e1 : findR i R = -1 := findR_none (by rw [hR']; exact hl)
      have hq : ¬ ((l.length : Int) < (R.length : Int)) := by rw [hR']; omega
      have E1 : Hid _ := e1
      clear hR hR' e1 hp
      go_wp2
      go_ret
      exact ⟨ret_int E1.out.symm, rfl⟩
    | cons x r =>
      have hlR : l.length < R.length := by rw [hR]; simp
      obtain ⟨g, rfl⟩ := hp (by omega)
      obtain ⟨e0, _, _⟩ := h.elem (j := l.length) (x := x) (by rw [hR]; simp)
      have HR : Hid (R = l ++ x :: r) := hR
      by_cases hx : (x.1.at_ : Int) = i
      · have e1 : findR i R = l.length := by rw [hR]; exact findR_at hl hx
        have E1 : Hid _ := e1
        have hxb : ((x.1.at_ : Int) == i) = true := by simpa using hx
        clear hR hx e1
        go_wp2
        go_ret
        exact ⟨ret_int E1.out.symm, rfl⟩
      · have hxb : ((x.1.at_ : Int) == i) = false := by simpa using hx
        clear hR
        go_wp2
        go_round
        case rel =>
          have e1 : (((l ++ [x]).length : Nat) : Int) = l.length + 1 := by simp
          refine ⟨l ++ [x], r, by have := HR.out; simpa using this, by rw [e1], ?_⟩
          intro y hy
          rcases List.mem_append.1 hy with hy | hy
          · exact hl y hy
          · simp at hy; subst hy; exact hx
        case measure => simp [intOf]; omega

end Go.Proofs.YtampilfebmfhaaaGreatDoor
