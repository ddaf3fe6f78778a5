/- The document's Kind, Size, Read, Write, within. -/
import Derived.Test.YtampilfebmfhaaaGreatDoorRef
namespace Go.Proofs.YtampilfebmfhaaaGreatDoor
open Go.RowKit

variable {n₀ br all en : Nat} {vo : Value} {w : World} {R : List (Ob × Value)}

/-- What a step of the document's heap may turn. -/
structure RStep (br : Nat) (vo : Value) (R : List (Ob × Value)) (w : World) (vo' : Value) (R' : List (Ob × Value)) (w' : World) : Prop where
  os : w'.os = w.os
  tape : w'.tape = w.tape
  output : w'.output = w.output
  size : w.heap.size ≤ w'.heap.size
  block : ∀ k, k < w.heap.size → ¬ IsRf.mine br vo R k → w'.heap[k]? = w.heap[k]?
  mine : ∀ k, IsRf.mine br vo' R' k → IsRf.mine br vo R k ∨ w.heap.size ≤ k
  wrds : ∀ x ∈ R', (∃ y ∈ R, y.2.ownBlock = x.2.ownBlock) ∨ ∃ k, x.2.ownBlock = some k ∧ w.heap.size ≤ k

theorem RStep.of_below {br : Nat} {vo : Value} {R : List (Ob × Value)} {w w' : World} (h : Below w.heap.size w w') : RStep br vo R w vo R w' :=
  ⟨h.os, h.tape, h.output, h.size, fun k hk _ => h.block k hk, fun _ h => .inl h, fun x hx => .inl ⟨x, hx, rfl⟩⟩

theorem RStep.refl (br : Nat) (vo : Value) (R : List (Ob × Value)) (w : World) : RStep br vo R w vo R w := RStep.of_below (Below.refl _ _)

theorem wform {w : World} {n₀ n : Nat} {v : Value} {xs : List Value} (h : w.ownsRow n₀ 71 1 v n xs) (hs : ∃ g, v.ownBlock = some g) : ∃ g c, v = .slice (some ⟨g, 0, none⟩) n c := by
  obtain ⟨g, hg⟩ := hs
  rcases h.2 with ⟨rfl, rfl⟩ | ⟨g', cap, cur, rfl, _⟩
  · simp [Value.ownBlock] at hg
  · exact ⟨g', cap, rfl⟩

set_option maxHeartbeats 1000000 in
theorem rkind_none (h : IsRf n₀ br vo w all en R) (i : Int) (hi : findR i R = -1) : Calls Tryz.prog 115 #[.pointer (some ⟨br, 0, none⟩), .int .i64 i] w fun e w' => e = .returned (.tuple #[.int .u8 0, .int .i64 1]) ∧ w' = w := by
  have h1 := find_r h i
  rw [hi] at h1
  clear h hi
  go_enter Tryz.func115, Tryz.ntmps115
  go_wp2_with (go_at_call 178; refine h1.mono ?_; clear h1; rintro e w' ⟨rfl, rfl⟩)
  go_ret2
  exact ⟨rfl, rfl⟩

set_option maxHeartbeats 1000000 in
theorem rsize_none (h : IsRf n₀ br vo w all en R) (i : Int) (hi : findR i R = -1) : Calls Tryz.prog 116 #[.pointer (some ⟨br, 0, none⟩), .int .i64 i] w fun e w' => e = .returned (.tuple #[.int .i64 0, .int .i64 1]) ∧ w' = w := by
  have h1 := find_r h i
  rw [hi] at h1
  clear h hi
  go_enter Tryz.func116, Tryz.ntmps116
  go_wp2_with (go_at_call 178; refine h1.mono ?_; clear h1; rintro e w' ⟨rfl, rfl⟩)
  go_ret2
  exact ⟨rfl, rfl⟩

set_option maxHeartbeats 1000000 in
theorem rread_none (h : IsRf n₀ br vo w all en R) (i j : Int) (hi : findR i R = -1) : Calls Tryz.prog 114 #[.pointer (some ⟨br, 0, none⟩), .int .i64 i, .int .i64 j] w fun e w' => e = .returned (.tuple #[.int .u64 0, .int .i64 1]) ∧ w' = w := by
  have h1 := find_r h i
  rw [hi] at h1
  clear h hi
  go_enter Tryz.func114, Tryz.ntmps114
  go_wp2_with (go_at_call 178; refine h1.mono ?_; clear h1; rintro e w' ⟨rfl, rfl⟩)
  go_ret2
  exact ⟨rfl, rfl⟩

set_option maxHeartbeats 1000000 in
theorem rwrite_none (h : IsRf n₀ br vo w all en R) (i j v : Int) (hi : findR i R = -1) : Calls Tryz.prog 110 #[.pointer (some ⟨br, 0, none⟩), .int .i64 i, .int .i64 j, .int .u64 v] w fun e w' => e = .returned (.int .i64 1) ∧ w' = w := by
  have h1 := find_r h i
  rw [hi] at h1
  clear h hi
  go_enter Tryz.func110, Tryz.ntmps110
  go_wp2_with (go_at_call 178; refine h1.mono ?_; clear h1; rintro e w' ⟨rfl, rfl⟩)
  go_ret
  exact ⟨rfl, rfl⟩

set_option maxRecDepth 20000 in
set_option maxHeartbeats 1000000 in
theorem rkind_at {l r : List (Ob × Value)} {x : Ob × Value} (h : IsRf n₀ br vo w all en (l ++ x :: r)) (hl : ∀ y ∈ l, (y.1.at_ : Int) ≠ x.1.at_) : Calls Tryz.prog 115 #[.pointer (some ⟨br, 0, none⟩), .int .i64 x.1.at_] w fun e w' => e = .returned (.tuple #[.int .u8 x.1.kind, .int .i64 0]) ∧ w' = w := by
  have h1 := find_r h x.1.at_
  rw [findR_at hl rfl] at h1
  have hc := h.c2
  have hle := h.le
  obtain ⟨p, c, rfl, _, _, hp⟩ := IsRf.row_some3 h.row
  obtain ⟨g, rfl⟩ := hp (by simp; omega)
  obtain ⟨e0, e1, e2⟩ := h.elem (j := l.length) (x := x) (by simp)
  have hlt : l.length < (l ++ x :: r).length := by simp
  obtain ⟨n, hn⟩ : ∃ n, (l ++ x :: r).length = n := ⟨_, rfl⟩
  rw [hn] at hc hle hlt
  clear h hn hl e0 e2 hp
  go_enter Tryz.func115, Tryz.ntmps115
  go_wp2_with (go_at_call 178; refine h1.mono ?_; clear h1; rintro e w' ⟨rfl, rfl⟩)
  go_ret2
  exact ⟨rfl, rfl⟩

set_option maxRecDepth 20000 in
set_option maxHeartbeats 1000000 in
theorem rsize_at {l r : List (Ob × Value)} {x : Ob × Value} (h : IsRf n₀ br vo w all en (l ++ x :: r)) (hl : ∀ y ∈ l, (y.1.at_ : Int) ≠ x.1.at_) : Calls Tryz.prog 116 #[.pointer (some ⟨br, 0, none⟩), .int .i64 x.1.at_] w fun e w' => e = .returned (.tuple #[.int .i64 x.1.ws.length, .int .i64 0]) ∧ w' = w := by
  have h1 := find_r h x.1.at_
  rw [findR_at hl rfl] at h1
  have hc := h.c2
  have hle := h.le
  obtain ⟨p, c, rfl, _, _, hp⟩ := IsRf.row_some3 h.row
  obtain ⟨g, rfl⟩ := hp (by simp; omega)
  obtain ⟨e0, e1, e2⟩ := h.elem (j := l.length) (x := x) (by simp)
  obtain ⟨hw1, hw2⟩ := h.wrds x (by simp)
  obtain ⟨gw, cw, hw⟩ := wform hw1 hw2
  rw [hw] at e2
  have hlt : l.length < (l ++ x :: r).length := by simp
  obtain ⟨n, hn⟩ : ∃ n, (l ++ x :: r).length = n := ⟨_, rfl⟩
  rw [hn] at hc hle hlt
  clear h hn hl e0 e1 hp hw1 hw2 hw
  go_enter Tryz.func116, Tryz.ntmps116
  go_wp2_with (go_at_call 178; refine h1.mono ?_; clear h1; rintro e w' ⟨rfl, rfl⟩)
  go_ret2
  exact ⟨rfl, rfl⟩

set_option maxRecDepth 20000 in
set_option maxHeartbeats 1000000 in
theorem rread_at {l r : List (Ob × Value)} {x : Ob × Value} (h : IsRf n₀ br vo w all en (l ++ x :: r)) (hl : ∀ y ∈ l, (y.1.at_ : Int) ≠ x.1.at_) (j y : Nat) (hj : x.1.ws[j]? = some y) : Calls Tryz.prog 114 #[.pointer (some ⟨br, 0, none⟩), .int .i64 x.1.at_, .int .i64 j] w fun e w' => e = .returned (.tuple #[.int .u64 y, .int .i64 0]) ∧ w' = w := by
  have h1 := find_r h x.1.at_
  rw [findR_at hl rfl] at h1
  have hc := h.c2
  have hle := h.le
  obtain ⟨p, c, rfl, _, _, hp⟩ := IsRf.row_some3 h.row
  obtain ⟨g, rfl⟩ := hp (by simp; omega)
  obtain ⟨e0, e1, e2⟩ := h.elem (j := l.length) (x := x) (by simp)
  obtain ⟨hw1, hw2⟩ := h.wrds x (by simp)
  obtain ⟨gw, cw, hw⟩ := wform hw1 hw2
  rw [hw] at e2 hw1
  have hj2 : j < x.1.ws.length := (List.getElem?_eq_some_iff.1 hj).1
  have hb := (h.bnd x (by simp)).2.1
  have e3 : w.cell? ⟨gw, j, none⟩ = some (.int .u64 y) := by rw [hw1.cellAt j (by omega)]; simp [hj, wv]
  have hlt : l.length < (l ++ x :: r).length := by simp
  obtain ⟨n, hn⟩ : ∃ n, (l ++ x :: r).length = n := ⟨_, rfl⟩
  rw [hn] at hc hle hlt
  clear h hn hl e0 e1 hp hw1 hw2 hw hj
  go_enter Tryz.func114, Tryz.ntmps114
  go_wp2_with (go_at_call 178; refine h1.mono ?_; clear h1; rintro e w' ⟨rfl, rfl⟩)
  go_ret2
  exact ⟨rfl, rfl⟩

set_option maxRecDepth 20000 in
set_option maxHeartbeats 1000000 in
theorem rread_out {l r : List (Ob × Value)} {x : Ob × Value} (h : IsRf n₀ br vo w all en (l ++ x :: r)) (hl : ∀ y ∈ l, (y.1.at_ : Int) ≠ x.1.at_) (j : Int) (hj : j < 0 ∨ (x.1.ws.length : Int) ≤ j) : Calls Tryz.prog 114 #[.pointer (some ⟨br, 0, none⟩), .int .i64 x.1.at_, .int .i64 j] w fun e w' => e = .returned (.tuple #[.int .u64 0, .int .i64 1]) ∧ w' = w := by
  have h1 := find_r h x.1.at_
  rw [findR_at hl rfl] at h1
  have hc := h.c2
  have hle := h.le
  obtain ⟨p, c, rfl, _, _, hp⟩ := IsRf.row_some3 h.row
  obtain ⟨g, rfl⟩ := hp (by simp; omega)
  obtain ⟨e0, e1, e2⟩ := h.elem (j := l.length) (x := x) (by simp)
  obtain ⟨hw1, hw2⟩ := h.wrds x (by simp)
  obtain ⟨gw, cw, hw⟩ := wform hw1 hw2
  rw [hw] at e2
  have hb := (h.bnd x (by simp)).2.1
  have hlt : l.length < (l ++ x :: r).length := by simp
  obtain ⟨n, hn⟩ : ∃ n, (l ++ x :: r).length = n := ⟨_, rfl⟩
  rw [hn] at hc hle hlt
  clear h hn hl e0 e1 hp hw1 hw2 hw
  by_cases hj1 : j < 0
  · clear hj
    go_enter Tryz.func114, Tryz.ntmps114
    go_wp2_with (go_at_call 178; refine h1.mono ?_; clear h1; rintro e w' ⟨rfl, rfl⟩)
    go_ret2
    exact ⟨rfl, rfl⟩
  · have hj2 : (x.1.ws.length : Int) ≤ j := by omega
    clear hj
    go_enter Tryz.func114, Tryz.ntmps114
    go_wp2_with (go_at_call 178; refine h1.mono ?_; clear h1; rintro e w' ⟨rfl, rfl⟩)
    go_ret2
    exact ⟨rfl, rfl⟩

set_option maxRecDepth 20000 in
set_option maxHeartbeats 1000000 in
theorem rwrite_out {l r : List (Ob × Value)} {x : Ob × Value} (h : IsRf n₀ br vo w all en (l ++ x :: r)) (hl : ∀ y ∈ l, (y.1.at_ : Int) ≠ x.1.at_) (j v : Int) (hj : j < 0 ∨ (x.1.ws.length : Int) ≤ j) : Calls Tryz.prog 110 #[.pointer (some ⟨br, 0, none⟩), .int .i64 x.1.at_, .int .i64 j, .int .u64 v] w fun e w' => e = .returned (.int .i64 1) ∧ w' = w := by
  have h1 := find_r h x.1.at_
  rw [findR_at hl rfl] at h1
  have hc := h.c2
  have hle := h.le
  obtain ⟨p, c, rfl, _, _, hp⟩ := IsRf.row_some3 h.row
  obtain ⟨g, rfl⟩ := hp (by simp; omega)
  obtain ⟨e0, e1, e2⟩ := h.elem (j := l.length) (x := x) (by simp)
  obtain ⟨hw1, hw2⟩ := h.wrds x (by simp)
  obtain ⟨gw, cw, hw⟩ := wform hw1 hw2
  rw [hw] at e2
  have hb := (h.bnd x (by simp)).2.1
  have hlt : l.length < (l ++ x :: r).length := by simp
  obtain ⟨n, hn⟩ : ∃ n, (l ++ x :: r).length = n := ⟨_, rfl⟩
  rw [hn] at hc hle hlt
  clear h hn hl e0 e1 hp hw1 hw2 hw
  by_cases hj1 : j < 0
  · clear hj
    go_enter Tryz.func110, Tryz.ntmps110
    go_wp2_with (go_at_call 178; refine h1.mono ?_; clear h1; rintro e w' ⟨rfl, rfl⟩)
    go_ret
    exact ⟨rfl, rfl⟩
  · have hj2 : (x.1.ws.length : Int) ≤ j := by omega
    clear hj
    go_enter Tryz.func110, Tryz.ntmps110
    go_wp2_with (go_at_call 178; refine h1.mono ?_; clear h1; rintro e w' ⟨rfl, rfl⟩)
    go_ret
    exact ⟨rfl, rfl⟩

/-- A word of an object is another one. -/
theorem IsRf.setWord {l r : List (Ob × Value)} {x : Ob × Value} (h : IsRf n₀ br vo w all en (l ++ x :: r)) {gw cw j v : Nat} (hx : x.2 = .slice (some ⟨gw, 0, none⟩) x.1.ws.length cw) :
    IsRf n₀ br vo (w.setCell ⟨gw, j, none⟩ (.int .u64 v)) all en (l ++ ({ x.1 with ws := x.1.ws.set j v }, x.2) :: r) ∧
    RStep br vo (l ++ x :: r) w vo (l ++ ({ x.1 with ws := x.1.ws.set j v }, x.2) :: r) (w.setCell ⟨gw, j, none⟩ (.int .u64 v)) := by
  have hxm : x ∈ l ++ x :: r := by simp
  have hgb : x.2.ownBlock = some gw := by rw [hx]; rfl
  have hs := (hx ▸ (h.wrds x hxm).1).stored j (.int .u64 v)
  have hne : ∀ k, (k = br ∨ vo.ownBlock = some k) → k ≠ gw := by
    intro k hk e
    obtain ⟨cur, hc⟩ := IsAr.row_type (h.wrds x hxm).1 hgb
    rcases hk with rfl | hk
    · rw [← e, h.blk] at hc; simp at hc
    · obtain ⟨cur', hc'⟩ := IsRf.row_type3 h.row hk
      rw [← e, hc'] at hc; simp at hc
  have hdis : ∀ y ∈ l ++ r, y.2.ownBlock ≠ some gw := by
    have hn := h.nod
    simp only [List.map_append, List.map_cons] at hn
    rw [List.nodup_append, List.nodup_cons] at hn
    intro y hy e
    rcases List.mem_append.1 hy with hy | hy
    · exact hn.2.2 (y.2.ownBlock) (List.mem_map.2 ⟨y, hy, rfl⟩) (x.2.ownBlock) (by simp) (by rw [e, hgb])
    · exact hn.2.1.1 (List.mem_map.2 ⟨y, hy, by rw [e, hgb]⟩)
  have hoth : ∀ k, k ≠ gw → (w.setCell ⟨gw, j, none⟩ (.int .u64 v)).heap[k]? = w.heap[k]? := fun k hk => heap_setCell_other w ⟨gw, j, none⟩ k _ hk
  refine ⟨⟨h.base, (hoth br (hne br (.inl rfl))).trans h.blk, ?_, ?_, ?_, ?_, ?_, h.en20, h.all20⟩, ⟨rfl, rfl, rfl, by simp [World.setCell], fun k _ hk => hoth k (fun e => hk (.inr (.inr ⟨x, hxm, by rw [e]; exact hgb⟩))), ?_, ?_⟩⟩
  · have e : rcells (l ++ ({ x.1 with ws := x.1.ws.set j v }, x.2) :: r) = rcells (l ++ x :: r) := by simp [rcells_append, rcells]
    rw [e]
    have := IsRf.row_kept h.row (w' := w.setCell ⟨gw, j, none⟩ (.int .u64 v)) (fun k hk => hoth k (hne k (.inr hk)))
    simpa using this
  · intro y hy
    rcases List.mem_append.1 hy with hy | hy
    · have hm : y ∈ l ++ x :: r := by simp [hy]
      exact ⟨IsRf.row_kept (h.wrds y hm).1 (fun k e => hoth k (fun e' => hdis y (by simp [hy]) (by rw [e, e']))), (h.wrds y hm).2⟩
    · rcases List.mem_cons.1 hy with rfl | hy
      · refine ⟨?_, gw, hgb⟩
        have := hs.1
        dsimp only
        rw [hx]
        simpa [wv, List.map_set] using this
      · have hm : y ∈ l ++ x :: r := by simp [hy]
        exact ⟨IsRf.row_kept (h.wrds y hm).1 (fun k e => hoth k (fun e' => hdis y (by simp [hy]) (by rw [e, e']))), (h.wrds y hm).2⟩
  · have := h.nod; simpa using this
  · have := h.le; simpa using this
  · intro y hy
    rcases List.mem_append.1 hy with hy | hy
    · exact h.bnd y (by simp [hy])
    · rcases List.mem_cons.1 hy with rfl | hy
      · simpa using h.bnd x hxm
      · exact h.bnd y (by simp [hy])
  · rintro k (rfl | e | ⟨y, hy, e⟩)
    · exact .inl (.inl rfl)
    · exact .inl (.inr (.inl e))
    · refine .inl (.inr (.inr ?_))
      rcases List.mem_append.1 hy with hy | hy
      · exact ⟨y, by simp [hy], e⟩
      · rcases List.mem_cons.1 hy with rfl | hy
        · exact ⟨x, hxm, e⟩
        · exact ⟨y, by simp [hy], e⟩
  · intro y hy
    left
    rcases List.mem_append.1 hy with hy | hy
    · exact ⟨y, by simp [hy], rfl⟩
    · rcases List.mem_cons.1 hy with rfl | hy
      · exact ⟨x, hxm, rfl⟩
      · exact ⟨y, by simp [hy], rfl⟩

set_option maxRecDepth 20000 in
set_option maxHeartbeats 1000000 in
theorem rwrite_at {l r : List (Ob × Value)} {x : Ob × Value} (h : IsRf n₀ br vo w all en (l ++ x :: r)) (hl : ∀ y ∈ l, (y.1.at_ : Int) ≠ x.1.at_) (j v : Nat) (hj : j < x.1.ws.length) : Calls Tryz.prog 110 #[.pointer (some ⟨br, 0, none⟩), .int .i64 x.1.at_, .int .i64 j, .int .u64 v] w fun e w' => e = .returned (.int .i64 0) ∧
    IsRf n₀ br vo w' all en (l ++ ({ x.1 with ws := x.1.ws.set j v }, x.2) :: r) ∧ RStep br vo (l ++ x :: r) w vo (l ++ ({ x.1 with ws := x.1.ws.set j v }, x.2) :: r) w' := by
  have h1 := find_r h x.1.at_
  rw [findR_at hl rfl] at h1
  have hc := h.c2
  have hle := h.le
  obtain ⟨p, c, hvo, _, _, hp⟩ := IsRf.row_some3 h.row
  obtain ⟨g, rfl⟩ := hp (by simp; omega)
  obtain ⟨e0, e1, e2⟩ := IsRf.elem (hvo ▸ h) (j := l.length) (x := x) (by simp)
  obtain ⟨hw1, hw2⟩ := h.wrds x (by simp)
  obtain ⟨gw, cw, hw⟩ := wform hw1 hw2
  have H : Hid _ := h.setWord (j := j) (v := v) hw
  rw [hw] at e2 hw1
  have hb := (h.bnd x (by simp)).2.1
  obtain ⟨old, e3⟩ : ∃ old, w.cell? ⟨gw, j, none⟩ = some (.int .u64 old) := ⟨(x.1.ws[j] : Int), by rw [hw1.cellAt j (by omega)]; simp [hj, wv]⟩
  have f3 := hw1.frozenAt j
  have hlt : l.length < (l ++ x :: r).length := by simp
  rw [hvo] at hc
  obtain ⟨n, hn⟩ : ∃ n, (l ++ x :: r).length = n := ⟨_, rfl⟩
  rw [hn] at hc hle hlt
  clear h hn hl e0 e1 hp hw1 hw2 hw hvo
  go_enter Tryz.func110, Tryz.ntmps110
  go_wp2_with (go_at_call 178; refine h1.mono ?_; clear h1; rintro e w' ⟨rfl, rfl⟩)
  go_ret
  exact ⟨rfl, H.out⟩

end Go.Proofs.YtampilfebmfhaaaGreatDoor
