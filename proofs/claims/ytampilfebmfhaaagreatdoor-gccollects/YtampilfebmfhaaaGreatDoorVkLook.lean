/- The book looks at all lists that it holds. -/
import Derived.Test.YtampilfebmfhaaaGreatDoorVkGrow
namespace Go.Proofs.YtampilfebmfhaaaGreatDoor
set_option linter.unusedVariables false
set_option linter.unusedSimpArgs false
open Go.RowKit


variable {n₀ bk : Nat} {vp : Value} {w : World} {H : List He}

theorem unwanted_if {P : Program} {ops : Array Oper} {S : World → Prop} {o : Oper} {a : Act} {j d : Nat} (hg : o.guard = some (j, true)) (hd : ((ops[j]?).bind (·.dst)) = some d) (ht : a.tmps[d]? = some (.bool false)) : YieldsIf P ops S o undef a :=
  Or.inr ⟨by unfold Region.wanted yielded; rw [hg]; simp only [hd, Option.bind_some, ht]; rfl, rfl⟩

theorem take_at {P : Program} {md : Region.Mode} {ops : Array Oper} {Q : Exit → Act → World → Prop} {S : World → Prop} {i d : Nat} {oi : Oper} {v : Value} {fuel : Nat} {listed : Array Bool} {a : Act} {w : World} (hi : ops[i]? = some oi) (hd : oi.dst = some d)
    (hs : Region.noSelect ops = true) (hf : Region.free md ops listed i = true) (hr : (Region.ready md ops listed).contains i = true)
    (hQ : ∀ c a w, Q (.panic c) (a.put (some d) v) w → Q (.panic c) a w) (hy : YieldsIf P ops S oi v a) (hS : S w)
    (h : wpAnyH P md ops Q S fuel (listed.setIfInBounds i true) { a with tmps := a.tmps.setIfInBounds d v } w) : wpAnyH P md ops Q S (fuel + 1) listed a w :=
  wpAnyH_take hi hs hf hr (by rw [hd]; exact hQ) hy hS (by rw [hd]; exact h)

set_option maxRecDepth 20000 in
set_option maxHeartbeats 8000000 in
theorem look_val (h : IsBk n₀ bk vp w H) (hA : ∀ x ∈ H, HC n₀ w x) : Calls Tryz.prog 79 #[.pointer (some ⟨bk, 0, none⟩)] w fun e w' => e = .returned (.bool true) ∧ Below w.heap.size w w' := by
  have hle := h.le
  have HH : Hid (IsBk n₀ bk vp w H) := h
  obtain ⟨p, c, hvp, _, _, hp⟩ := row_formV h.row
  subst hvp
  clear h
  go_enter Tryz.func79, Tryz.ntmps79
  go_wp2
  go_loopw [3] (fun k wr => ∃ (l r : List He), H = l ++ r ∧ k = .int .i64 l.length ∧ Below w.heap.size w wr) (fun k _ => H.length - (intOf k).toNat)
  case atStart => exact ⟨[], H, rfl, rfl, Below.refl _ _⟩
  case round =>
    obtain ⟨l, r, hH, rfl, hB⟩ := hrel
    rename World => wo
    have h' : IsBk n₀ bk (.slice p H.length c) wo H := HH.out.kept (fun k hk => hB.block k (HH.out.blocks hk).2.1)
    have hc := h'.c2
    cases r with
    | nil =>
      have hH' : H = l := by simpa using hH
      have hq : ¬ ((l.length : Int) < (H.length : Int)) := by rw [hH']; omega
      clear hH hH' hp
      go_wp2
      go_ret
      exact ⟨rfl, hB⟩
    | cons x r =>
      have hlH : l.length < H.length := by rw [hH]; simp
      obtain ⟨g, rfl⟩ := hp (by omega)
      have hxm : x ∈ H := by rw [hH]; simp
      obtain ⟨e0, e1, e2⟩ := h'.elem (j := l.length) (x := x) (by rw [hH]; simp)
      obtain ⟨b1, b2⟩ := h'.num x hxm
      have hx := (hA x hxm).kept (w' := wo) (fun k hk => hB.block k ((hA x hxm).blocks hk).2.1)
      obtain ⟨px, cx, hxl, hxs⟩ := hx.form
      obtain ⟨plx, cl, hxg, _, _, hpl⟩ := row_formV hx.row
      obtain ⟨gl, rfl⟩ := hpl (by omega)
      have HL : Hid (x.l = .slice px x.len cx) := hxl
      have HG : Hid (x.long = .slice (some ⟨gl, 0, none⟩) (x.len + 40) cl) := hxg
      rw [hxl] at e0
      rw [hxg] at e1
      have HR : Hid (H = l ++ x :: r) := hH
      have HX : Hid (HC n₀ wo x) := hx
      clear hH hxl hxg hx h'
      go_wp2
      obtain ⟨W0, hW0⟩ : ∃ W0, wo.alloc (.cells #[.slice px x.len cx, .slice (some ⟨gl, 0, none⟩) (x.len + 40) cl, .int .i64 x.n] 158) = W0 := ⟨_, rfl⟩
      rw [hW0]
      have hBW : Below wo.heap.size wo W0 := hW0 ▸ (Below.refl _ _).alloc (Nat.le_refl _) _
      have hn0 : W0.heap[wo.heap.size]? = some (.cells #[.slice px x.len cx, .slice (some ⟨gl, 0, none⟩) (x.len + 40) cl, .int .i64 x.n] 158 (0, 0)) := hW0 ▸ heap_alloc_new wo _
      have hn1 : wo.heap.size < W0.heap.size := (Array.getElem?_eq_some_iff.1 hn0).1
      have HBW : Hid (Below wo.heap.size wo W0) := hBW
      clear hW0 e0 e1 e2 hBW hc hA
      go_loopw [5] (fun k wr => ∃ (j : Nat), k = .int .i64 j ∧ j ≤ x.len + 40 ∧ Below W0.heap.size W0 wr) (fun k _ => x.len + 40 - (intOf k).toNat)
      case atStart => exact ⟨0, rfl, by omega, Below.refl _ _⟩
      case round =>
        obtain ⟨j, rfl, hj, hBi⟩ := hrel
        have hbi := (hBi.block _ hn1).trans hn0
        have d0 : wr.cell? ⟨wo.heap.size, 0, none⟩ = some (.slice px x.len cx) := by rw [cell_of_row wr _ 0 _ _ _ hbi]; rfl
        have d1 : wr.cell? ⟨wo.heap.size, 1, none⟩ = some (.slice (some ⟨gl, 0, none⟩) (x.len + 40) cl) := by rw [cell_of_row wr _ 1 _ _ _ hbi]; rfl
        have d2 : wr.cell? ⟨wo.heap.size, 2, none⟩ = some (.int .i64 x.n) := by rw [cell_of_row wr _ 2 _ _ _ hbi]; rfl
        have hbw : ∀ k, k < wo.heap.size → wr.heap[k]? = wo.heap[k]? := fun k hk => (hBi.block k (by omega)).trans (HBW.out.block k hk)
        clear hbi
        by_cases hjn : j < x.len + 40
        · have a1 := isVal_in x.n b1
          have hjn' : (j : Int) < (x.len : Int) + 40 := by omega
          have M : ∀ i u, (mks x.n (x.len + 40))[j * 2 + i]? = some u → wr.cell? ⟨gl, j * 2 + i, none⟩ = some u := fun i u hu => by
            have h1 := HX.out.row
            rw [HG.out] at h1
            have h2 := h1.cells (g := gl) rfl (j * 2 + i) u hu
            rw [addr_add] at h2
            exact (World.cell?_of_block (a := ⟨gl, j * 2 + i, none⟩) (hbw gl (h1.lt gl rfl).2)).trans h2
          obtain ⟨u0, u1⟩ := mks_get x.n hjn
          have m0 := M 0 _ u0
          have m1 := M 1 _ u1
          rw [Nat.add_zero] at m0
          clear M u0 u1
          by_cases hjl : j < x.len
          · obtain ⟨gx, rfl⟩ := hxs (by omega)
            have hjl' : (j : Int) < (x.len : Int) := by omega
            have hgx : x.l.ownBlock = some gx := by rw [HL.out]; rfl
            have M : ∀ i u, i < 2 → (mks x.n x.len)[j * 2 + i]? = some u → wr.cell? ⟨gx, j * 2 + i, none⟩ = some u := fun i u hi hu =>
              ((World.cell?_of_block (a := ⟨gx, j * 2 + i, none⟩) (hbw gx (HX.out.blk gx hgx).2.1)).trans (HX.out.cells gx hgx (j * 2 + i) (by omega))).trans hu
            obtain ⟨u0, u1⟩ := mks_get x.n hjl
            have n0 := M 0 _ (by omega) u0
            have n1 := M 1 _ (by omega) u1
            rw [Nat.add_zero] at n0
            clear M u0 u1 hxs hbw hgx hn0
            have F : ∀ W, Below wr.heap.size wr W → W.cell? ⟨wo.heap.size, 0, none⟩ = some (.slice (some ⟨gx, 0, none⟩) x.len cx) ∧ W.cell? ⟨wo.heap.size, 1, none⟩ = some (.slice (some ⟨gl, 0, none⟩) (x.len + 40) cl) ∧ W.cell? ⟨wo.heap.size, 2, none⟩ = some (.int .i64 x.n) ∧ W.cell? ⟨gl, j * 2, none⟩ = some (.int .u8 0) ∧ W.cell? ⟨gl, j * 2 + 1, none⟩ = some (.int .i64 (mkI x.n)) ∧ W.cell? ⟨gx, j * 2, none⟩ = some (.int .u8 0) ∧ W.cell? ⟨gx, j * 2 + 1, none⟩ = some (.int .i64 (mkI x.n)) := fun W hB => ⟨(hB.cell (p := ⟨wo.heap.size, 0, none⟩) (World.block_lt_of_cell? wr _ d0)).trans d0, (hB.cell (p := ⟨wo.heap.size, 1, none⟩) (World.block_lt_of_cell? wr _ d1)).trans d1, (hB.cell (p := ⟨wo.heap.size, 2, none⟩) (World.block_lt_of_cell? wr _ d2)).trans d2, (hB.cell (p := ⟨gl, j * 2, none⟩) (World.block_lt_of_cell? wr _ m0)).trans m0, (hB.cell (p := ⟨gl, j * 2 + 1, none⟩) (World.block_lt_of_cell? wr _ m1)).trans m1, (hB.cell (p := ⟨gx, j * 2, none⟩) (World.block_lt_of_cell? wr _ n0)).trans n0, (hB.cell (p := ⟨gx, j * 2 + 1, none⟩) (World.block_lt_of_cell? wr _ n1)).trans n1⟩
            go_wp2_with (first | fail)
            go_region_held3 (fun W => W.cell? ⟨wo.heap.size, 0, none⟩ = some (.slice (some ⟨gx, 0, none⟩) x.len cx) ∧ W.cell? ⟨wo.heap.size, 1, none⟩ = some (.slice (some ⟨gl, 0, none⟩) (x.len + 40) cl) ∧ W.cell? ⟨wo.heap.size, 2, none⟩ = some (.int .i64 x.n) ∧ W.cell? ⟨gl, j * 2, none⟩ = some (.int .u8 0) ∧ W.cell? ⟨gl, j * 2 + 1, none⟩ = some (.int .i64 (mkI x.n)) ∧ W.cell? ⟨gx, j * 2, none⟩ = some (.int .u8 0) ∧ W.cell? ⟨gx, j * 2 + 1, none⟩ = some (.int .i64 (mkI x.n))) (first | exact F _ hC2 | exact F _ (below_drewV hC2) | exact F _ hC1 | exact F _ (below_drewV hC1) | exact F _ (Below.refl _ _) | exact F _ (below_drewV (Below.refl _ _)) | go_keep)
              ((first
                | (go_at_call 155; (with_reducible refine (a1 _).mono ?_); rintro e w6 ⟨rfl, hB6⟩; have hC2 : Below wr.heap.size wr w6 := by (first | exact hC1.trans (hB6.mono hC1.size) | exact (below_drewV hC1).trans (hB6.mono (below_drewV hC1).size)))
                | (go_at_call 155; (with_reducible refine (a1 _).mono ?_); rintro e w5 ⟨rfl, hB5⟩; have hC1 : Below wr.heap.size wr w5 := by (first | exact (below_drewV (Below.refl wr.heap.size wr)).trans hB5 | exact hB5))))
            all_goals
              go_wp2
              go_roundw
              case rel => exact ⟨j + 1, by simp, by omega, hBi.trans ((by first | exact hC2 | exact below_drewV hC2 | exact hC1 | exact below_drewV hC1 : Below wr.heap.size wr _).mono hBi.size)⟩
              case measure => simp [intOf]; omega
          · have hjl' : decide ((j : Int) < (x.len : Int)) = false := decide_eq_false (by omega)
            have hjl2 : ¬ ((j : Int) < (x.len : Int)) := by omega
            clear hxs hbw hn0
            have F : ∀ W, Below wr.heap.size wr W → W.cell? ⟨wo.heap.size, 0, none⟩ = some (.slice px x.len cx) ∧ W.cell? ⟨wo.heap.size, 1, none⟩ = some (.slice (some ⟨gl, 0, none⟩) (x.len + 40) cl) ∧ W.cell? ⟨wo.heap.size, 2, none⟩ = some (.int .i64 x.n) ∧ W.cell? ⟨gl, j * 2, none⟩ = some (.int .u8 0) ∧ W.cell? ⟨gl, j * 2 + 1, none⟩ = some (.int .i64 (mkI x.n)) := fun W hB => ⟨(hB.cell (p := ⟨wo.heap.size, 0, none⟩) (World.block_lt_of_cell? wr _ d0)).trans d0, (hB.cell (p := ⟨wo.heap.size, 1, none⟩) (World.block_lt_of_cell? wr _ d1)).trans d1, (hB.cell (p := ⟨wo.heap.size, 2, none⟩) (World.block_lt_of_cell? wr _ d2)).trans d2, (hB.cell (p := ⟨gl, j * 2, none⟩) (World.block_lt_of_cell? wr _ m0)).trans m0, (hB.cell (p := ⟨gl, j * 2 + 1, none⟩) (World.block_lt_of_cell? wr _ m1)).trans m1⟩
            go_wp2_with (first | fail)
            refine wp_region_held_drew (S := fun W => W.cell? ⟨wo.heap.size, 0, none⟩ = some (.slice px x.len cx) ∧ W.cell? ⟨wo.heap.size, 1, none⟩ = some (.slice (some ⟨gl, 0, none⟩) (x.len + 40) cl) ∧ W.cell? ⟨wo.heap.size, 2, none⟩ = some (.int .i64 x.n) ∧ W.cell? ⟨gl, j * 2, none⟩ = some (.int .u8 0) ∧ W.cell? ⟨gl, j * 2 + 1, none⟩ = some (.int .i64 (mkI x.n))) (by kernel_rfl) (F _ (below_drewV (Below.refl _ _))) (fun hHeld => ?_)
            refine take_at (i := 0) (d := 37) (v := ?v0) rfl rfl (by kernel_rfl) (by kernel_rfl) (by kernel_rfl) (fun _ _ _ h => h) (Or.inl ⟨by rfl, ?hy0⟩) (by assumption) ?rest0
            case hy0 => (intro w hSw; (try dsimp only at hSw); go_simp; try with_reducible rfl)
            simp only [List.setIfInBounds_toArray, List.set_cons_zero, List.set_cons_succ]
            refine take_at (i := 1) (d := 38) (v := ?v1) rfl rfl (by kernel_rfl) (by kernel_rfl) (by kernel_rfl) (fun _ _ _ h => h) (Or.inl ⟨by rfl, ?hy1⟩) (by assumption) ?rest1
            case hy1 => (intro w hSw; (try dsimp only at hSw); go_simp; try with_reducible rfl)
            simp only [List.setIfInBounds_toArray, List.set_cons_zero, List.set_cons_succ]
            refine take_at (i := 2) (d := 39) (v := ?v2) rfl rfl (by kernel_rfl) (by kernel_rfl) (by kernel_rfl) (fun _ _ _ h => h) (Or.inl ⟨by rfl, ?hy2⟩) (by assumption) ?rest2
            case hy2 => (intro w hSw; (try dsimp only at hSw); go_simp; try with_reducible rfl)
            simp only [List.setIfInBounds_toArray, List.set_cons_zero, List.set_cons_succ]
            refine take_at (i := 3) (d := 40) (v := ?v3) rfl rfl (by kernel_rfl) (by kernel_rfl) (by kernel_rfl) (fun _ _ _ h => h) (Or.inl ⟨by rfl, ?hy3⟩) (by assumption) ?rest3
            case hy3 => (intro w hSw; (try dsimp only at hSw); go_simp; try with_reducible rfl)
            simp only [List.setIfInBounds_toArray, List.set_cons_zero, List.set_cons_succ]
            refine take_at (i := 4) (d := 41) (v := ?v4) rfl rfl (by kernel_rfl) (by kernel_rfl) (by kernel_rfl) (fun _ _ _ h => h) (Or.inl ⟨by rfl, ?hy4⟩) (by assumption) ?rest4
            case hy4 => (intro w hSw; (try dsimp only at hSw); go_simp; try with_reducible rfl)
            simp only [List.setIfInBounds_toArray, List.set_cons_zero, List.set_cons_succ]
            refine take_at (i := 5) (d := 42) (v := ?v5) rfl rfl (by kernel_rfl) (by kernel_rfl) (by kernel_rfl) (fun _ _ _ h => h) (Or.inl ⟨by rfl, ?hy5⟩) (by assumption) ?rest5
            case hy5 => (intro w hSw; (try dsimp only at hSw); go_simp; try with_reducible rfl)
            simp only [List.setIfInBounds_toArray, List.set_cons_zero, List.set_cons_succ]
            refine take_at (i := 6) (d := 43) (v := ?v6) rfl rfl (by kernel_rfl) (by kernel_rfl) (by kernel_rfl) (fun _ _ _ h => h) (Or.inl ⟨by rfl, ?hy6⟩) (by assumption) ?rest6
            case hy6 => (intro w hSw; (try dsimp only at hSw); go_simp; try with_reducible rfl)
            simp only [List.setIfInBounds_toArray, List.set_cons_zero, List.set_cons_succ]
            refine wpAnyH_ready (rs := [7]) (by kernel_rfl) (by simp) ?_
            refine AllReadyH.cons rfl (fun K hK => ?_) AllReadyH.nil
            go_simp
            go_at_call 155
            refine (a1 _).mono ?_
            rintro e w5 ⟨rfl, hB5⟩
            have hC1 : Below wr.heap.size wr w5 := (below_drewV (Below.refl wr.heap.size wr)).trans hB5
            refine hK.out _ _ (F _ hC1) (fun hHeld2 => ?_)
            clear hK hHeld
            try simp only [Act.put, List.setIfInBounds_toArray, List.set_cons_zero, List.set_cons_succ]
            refine take_at (i := 8) (d := 45) (v := ?v8) rfl rfl (by kernel_rfl) (by kernel_rfl) (by kernel_rfl) (fun _ _ _ h => h) (Or.inl ⟨by rfl, ?hy8⟩) (by assumption) ?rest8
            case hy8 => (intro w hSw; (try dsimp only at hSw); go_simp; try with_reducible rfl)
            simp only [List.setIfInBounds_toArray, List.set_cons_zero, List.set_cons_succ]
            refine take_at (i := 9) (d := 46) (v := ?v9) rfl rfl (by kernel_rfl) (by kernel_rfl) (by kernel_rfl) (fun _ _ _ h => h) (Or.inl ⟨by rfl, ?hy9⟩) (by assumption) ?rest9
            case hy9 => (intro w hSw; (try dsimp only at hSw); go_simp; try with_reducible rfl)
            simp only [List.setIfInBounds_toArray, List.set_cons_zero, List.set_cons_succ]
            refine take_at (i := 10) (d := 47) (v := ?v10) rfl rfl (by kernel_rfl) (by kernel_rfl) (by kernel_rfl) (fun _ _ _ h => h) (Or.inl ⟨by rfl, ?hy10⟩) (by assumption) ?rest10
            case hy10 => (intro w hSw; (try dsimp only at hSw); go_simp; try with_reducible rfl)
            simp only [List.setIfInBounds_toArray, List.set_cons_zero, List.set_cons_succ]
            refine take_at (i := 11) (d := 48) (v := ?v11) rfl rfl (by kernel_rfl) (by kernel_rfl) (by kernel_rfl) (fun _ _ _ h => h) (Or.inl ⟨by rfl, ?hy11⟩) (by assumption) ?rest11
            case hy11 => (intro w hSw; (try dsimp only at hSw); go_simp; try with_reducible rfl)
            simp only [List.setIfInBounds_toArray, List.set_cons_zero, List.set_cons_succ]
            refine take_at (i := 12) (d := 49) (v := ?v12) rfl rfl (by kernel_rfl) (by kernel_rfl) (by kernel_rfl) (fun _ _ _ h => h) (Or.inl ⟨by rfl, ?hy12⟩) (by assumption) ?rest12
            case hy12 => (intro w hSw; (try dsimp only at hSw); go_simp; try with_reducible rfl)
            simp only [List.setIfInBounds_toArray, List.set_cons_zero, List.set_cons_succ]
            refine take_at (i := 13) (d := 50) (v := ?v13) rfl rfl (by kernel_rfl) (by kernel_rfl) (by kernel_rfl) (fun _ _ _ h => h) (Or.inl ⟨by rfl, ?hy13⟩) (by assumption) ?rest13
            case hy13 => (intro w hSw; (try dsimp only at hSw); go_simp; try with_reducible rfl)
            simp only [List.setIfInBounds_toArray, List.set_cons_zero, List.set_cons_succ]
            refine take_at (i := 14) (d := 51) (v := ?v14) rfl rfl (by kernel_rfl) (by kernel_rfl) (by kernel_rfl) (fun _ _ _ h => h) (Or.inl ⟨by rfl, ?hy14⟩) (by assumption) ?rest14
            case hy14 => (intro w hSw; (try dsimp only at hSw); go_simp; try with_reducible rfl)
            simp only [List.setIfInBounds_toArray, List.set_cons_zero, List.set_cons_succ]
            refine take_at (i := 15) (d := 52) (v := ?v15) rfl rfl (by kernel_rfl) (by kernel_rfl) (by kernel_rfl) (fun _ _ _ h => h) (Or.inl ⟨by rfl, ?hy15⟩) (by assumption) ?rest15
            case hy15 => (intro w hSw; (try dsimp only at hSw); go_simp; try with_reducible rfl)
            simp only [List.setIfInBounds_toArray, List.set_cons_zero, List.set_cons_succ]
            refine take_at (i := 16) (d := 53) (v := undef) rfl rfl (by kernel_rfl) (by kernel_rfl) (by kernel_rfl) (fun _ _ _ h => h) (unwanted_if (j := 15) (d := 52) rfl rfl rfl) (by assumption) ?rest16
            simp only [List.setIfInBounds_toArray, List.set_cons_zero, List.set_cons_succ]
            refine take_at (i := 17) (d := 54) (v := undef) rfl rfl (by kernel_rfl) (by kernel_rfl) (by kernel_rfl) (fun _ _ _ h => h) (unwanted_if (j := 15) (d := 52) rfl rfl rfl) (by assumption) ?rest17
            simp only [List.setIfInBounds_toArray, List.set_cons_zero, List.set_cons_succ]
            refine take_at (i := 18) (d := 55) (v := undef) rfl rfl (by kernel_rfl) (by kernel_rfl) (by kernel_rfl) (fun _ _ _ h => h) (unwanted_if (j := 15) (d := 52) rfl rfl rfl) (by assumption) ?rest18
            simp only [List.setIfInBounds_toArray, List.set_cons_zero, List.set_cons_succ]
            refine take_at (i := 19) (d := 56) (v := undef) rfl rfl (by kernel_rfl) (by kernel_rfl) (by kernel_rfl) (fun _ _ _ h => h) (unwanted_if (j := 15) (d := 52) rfl rfl rfl) (by assumption) ?rest19
            simp only [List.setIfInBounds_toArray, List.set_cons_zero, List.set_cons_succ]
            refine take_at (i := 20) (d := 57) (v := undef) rfl rfl (by kernel_rfl) (by kernel_rfl) (by kernel_rfl) (fun _ _ _ h => h) (unwanted_if (j := 15) (d := 52) rfl rfl rfl) (by assumption) ?rest20
            simp only [List.setIfInBounds_toArray, List.set_cons_zero, List.set_cons_succ]
            refine take_at (i := 21) (d := 58) (v := undef) rfl rfl (by kernel_rfl) (by kernel_rfl) (by kernel_rfl) (fun _ _ _ h => h) (unwanted_if (j := 15) (d := 52) rfl rfl rfl) (by assumption) ?rest21
            simp only [List.setIfInBounds_toArray, List.set_cons_zero, List.set_cons_succ]
            refine take_at (i := 22) (d := 59) (v := undef) rfl rfl (by kernel_rfl) (by kernel_rfl) (by kernel_rfl) (fun _ _ _ h => h) (unwanted_if (j := 15) (d := 52) rfl rfl rfl) (by assumption) ?rest22
            simp only [List.setIfInBounds_toArray, List.set_cons_zero, List.set_cons_succ]
            refine take_at (i := 23) (d := 60) (v := undef) rfl rfl (by kernel_rfl) (by kernel_rfl) (by kernel_rfl) (fun _ _ _ h => h) (unwanted_if (j := 15) (d := 52) rfl rfl rfl) (by assumption) ?rest23
            simp only [List.setIfInBounds_toArray, List.set_cons_zero, List.set_cons_succ]
            refine take_at (i := 24) (d := 61) (v := undef) rfl rfl (by kernel_rfl) (by kernel_rfl) (by kernel_rfl) (fun _ _ _ h => h) (unwanted_if (j := 15) (d := 52) rfl rfl rfl) (by assumption) ?rest24
            simp only [List.setIfInBounds_toArray, List.set_cons_zero, List.set_cons_succ]
            refine take_at (i := 25) (d := 62) (v := ?v25) rfl rfl (by kernel_rfl) (by kernel_rfl) (by kernel_rfl) (fun _ _ _ h => h) (Or.inl ⟨by rfl, ?hy25⟩) (by assumption) ?rest25
            case hy25 => (intro w hSw; (try dsimp only at hSw); go_simp; try with_reducible rfl)
            simp only [List.setIfInBounds_toArray, List.set_cons_zero, List.set_cons_succ]
            refine take_at (i := 26) (d := 63) (v := ?v26) rfl rfl (by kernel_rfl) (by kernel_rfl) (by kernel_rfl) (fun _ _ _ h => h) (Or.inl ⟨by rfl, ?hy26⟩) (by assumption) ?rest26
            case hy26 => (intro w hSw; (try dsimp only at hSw); go_simp; try with_reducible rfl)
            simp only [List.setIfInBounds_toArray, List.set_cons_zero, List.set_cons_succ]
            refine wpAnyH_done (by kernel_rfl) ?_ _
            go_wp2
            go_roundw
            case rel => exact ⟨j + 1, by simp, by omega, hBi.trans ((by first | exact hC1 | exact below_drewV hC1 : Below wr.heap.size wr _).mono hBi.size)⟩
            case measure => simp [intOf]; omega
        · have hq : ¬ ((j : Int) < (x.len : Int) + 40) := by omega
          clear hbw hn0 hxs
          go_wp2
          go_roundw
          case rel =>
            have e1 : (((l ++ [x]).length : Nat) : Int) = l.length + 1 := by simp
            exact ⟨l ++ [x], r, by have := HR.out; simpa using this, by rw [e1], hB.trans ((HBW.out.trans (hBi.mono HBW.out.size)).mono hB.size)⟩
          case measure => simp [intOf]; omega

end Go.Proofs.YtampilfebmfhaaaGreatDoor
