/- The book looks at all lists that it holds. -/
import Derived.Test.YtampilfebmfhaaaGreatDoorGrow
namespace Go.Proofs.YtampilfebmfhaaaGreatDoor
open Go.RowKit


variable {n₀ bk : Nat} {vp : Value} {w : World} {H : List He}

set_option maxRecDepth 20000 in
set_option maxHeartbeats 1000000 in
theorem look_place (h : IsBk n₀ bk vp w H) (hA : ∀ x ∈ H, HC n₀ w x) : Calls Tryz.prog 77 #[.pointer (some ⟨bk, 0, none⟩)] w fun e w' => e = .returned (.bool true) ∧ Below w.heap.size w w' := by
  have hle := h.le
  have HH : Hid (IsBk n₀ bk vp w H) := h
  obtain ⟨p, c, hvp, _, _, hp⟩ := IsRf.row_some3 h.row
  subst hvp
  clear h
  go_enter Tryz.func77, Tryz.ntmps77
  go_wp2
  go_loopw [3] (fun k wr => ∃ (l r : List He), H = l ++ r ∧ k = .int .i64 l.length ∧ Below w.heap.size w wr) (fun k _ => H.length - (intOf k).toNat)
  case atStart => exact ⟨[], H, rfl, rfl, Below.refl _ _⟩
  case round =>
    obtain ⟨l, r, hH, rfl, hB⟩ := hrel
    rename World => wo
    have h' : IsBk n₀ bk (.slice p H.length c) wo H := HH.out.kept (fun k hk => hB.block k (HH.out.blocks hk).2.1)
    have hc := h'.c2
    cases r with
    | nil =>
      have hH' : H = l := by simpa using hH
      have hq : ¬ ((l.length : Int) < (H.length : Int)) := by rw [hH']; omega
      clear hH hH' hp
      go_wp2
      go_ret
      exact ⟨rfl, hB⟩
    | cons x r =>
      have hlH : l.length < H.length := by rw [hH]; simp
      obtain ⟨g, rfl⟩ := hp (by omega)
      have hxm : x ∈ H := by rw [hH]; simp
      obtain ⟨e0, e1, e2⟩ := h'.elem (j := l.length) (x := x) (by rw [hH]; simp)
      obtain ⟨b1, b2⟩ := h'.num x hxm
      have hx := (hA x hxm).kept (w' := wo) (fun k hk => hB.block k ((hA x hxm).blocks hk).2.1)
      obtain ⟨px, cx, hxl, hxs⟩ := hx.form
      obtain ⟨gl, cl, hxg, _, _⟩ := IsAr.row_some hx.row (by omega)
      have HL : Hid (x.l = .slice px x.len cx) := hxl
      have HG : Hid (x.long = .slice (some ⟨gl, 0, none⟩) (x.len + 40) cl) := hxg
      rw [hxl] at e0
      rw [hxg] at e1
      have HR : Hid (H = l ++ x :: r) := hH
      have HX : Hid (HC n₀ wo x) := hx
      clear hH hxl hxg hx h'
      go_wp2
      obtain ⟨W0, hW0⟩ : ∃ W0, wo.alloc (.cells #[.slice px x.len cx, .slice (some ⟨gl, 0, none⟩) (x.len + 40) cl, .int .i64 x.n] 148) = W0 := ⟨_, rfl⟩
      rw [hW0]
      have hBW : Below wo.heap.size wo W0 := hW0 ▸ (Below.refl _ _).alloc (Nat.le_refl _) _
      have hn0 : W0.heap[wo.heap.size]? = some (.cells #[.slice px x.len cx, .slice (some ⟨gl, 0, none⟩) (x.len + 40) cl, .int .i64 x.n] 148 (0, 0)) := hW0 ▸ heap_alloc_new wo _
      have hn1 : wo.heap.size < W0.heap.size := (Array.getElem?_eq_some_iff.1 hn0).1
      have HBW : Hid (Below wo.heap.size wo W0) := hBW
      clear hW0 e0 e1 e2 hBW hc hA
      go_loopw [5] (fun k wr => ∃ (j : Nat), k = .int .i64 j ∧ j ≤ x.len + 40 ∧ Below W0.heap.size W0 wr) (fun k _ => x.len + 40 - (intOf k).toNat)
      case atStart => exact ⟨0, rfl, by omega, Below.refl _ _⟩
      case round =>
        obtain ⟨j, rfl, hj, hBi⟩ := hrel
        have hbi := (hBi.block _ hn1).trans hn0
        have d0 : wr.cell? ⟨wo.heap.size, 0, none⟩ = some (.slice px x.len cx) := by rw [cell_of_row wr _ 0 _ _ _ hbi]; rfl
        have d1 : wr.cell? ⟨wo.heap.size, 1, none⟩ = some (.slice (some ⟨gl, 0, none⟩) (x.len + 40) cl) := by rw [cell_of_row wr _ 1 _ _ _ hbi]; rfl
        have d2 : wr.cell? ⟨wo.heap.size, 2, none⟩ = some (.int .i64 x.n) := by rw [cell_of_row wr _ 2 _ _ _ hbi]; rfl
        have hbw : ∀ k, k < wo.heap.size → wr.heap[k]? = wo.heap[k]? := fun k hk => (hBi.block k (by omega)).trans (HBW.out.block k hk)
        clear hbi
        by_cases hjn : j < x.len + 40
        · have a1 := is_place x.n b1
          unfold mk at a1
          have d3 : wr.cell? ⟨gl, j, none⟩ = some (.int .i64 (-1000 - (x.n : Int))) := by
            have h1 := HX.out.row
            rw [HG.out] at h1
            have h2 := h1.cells (g := gl) rfl j (mk x.n) (by rw [List.getElem?_replicate, if_pos hjn])
            rw [addr_add] at h2
            exact (World.cell?_of_block (a := ⟨gl, j, none⟩) (hbw gl (h1.lt gl rfl).2)).trans h2
          by_cases hjl : j < x.len
          · obtain ⟨gx, rfl⟩ := hxs (by omega)
            have hgx : x.l.ownBlock = some gx := by rw [HL.out]; rfl
            have d4 : wr.cell? ⟨gx, j, none⟩ = some (.int .i64 (-1000 - (x.n : Int))) :=
              (World.cell?_of_block (a := ⟨gx, j, none⟩) (hbw gx (HX.out.blk gx hgx).2.1)).trans (HX.out.cells gx hgx j hjl)
            clear hxs hbw hgx hn0
            go_wp2
            go_quiet ((go_at_call 153; exact Calls.quiet_of_same (a1 _)))
            go_wp2
            go_roundw
            case rel => exact ⟨j + 1, by simp, by omega, below_drewN' hBi _⟩
            case measure => simp [intOf]; omega
          · have hjl' : ¬ ((j : Int) < (x.len : Int)) := by omega
            clear hxs hbw hn0
            go_wp2
            go_quiet ((go_at_call 153; exact Calls.quiet_of_same (a1 _)))
            go_wp2
            go_roundw
            case rel => exact ⟨j + 1, by simp, by omega, below_drewN' hBi _⟩
            case measure => simp [intOf]; omega
        · have hq : ¬ ((j : Int) < (x.len : Int) + 40) := by omega
          clear hbw hn0 hxs
          go_wp2
          go_roundw
          case rel =>
            have e1 : (((l ++ [x]).length : Nat) : Int) = l.length + 1 := by simp
            exact ⟨l ++ [x], r, by have := HR.out; simpa using this, by rw [e1], hB.trans ((HBW.out.trans (hBi.mono HBW.out.size)).mono hB.size)⟩
          case measure => simp [intOf]; omega

end Go.Proofs.YtampilfebmfhaaaGreatDoor
