/- The walk of GcKeeps. -/
import Derived.Test.YtampilfebmfhaaaGcAlive2
import Derived.Test.YtampilfebmfhaaaGcNil
import Derived.Test.YtampilfebmfhaaaGcMade
namespace Go.Proofs.Ytampilfebmfhaaa
set_option linter.unusedVariables false
set_option linter.unusedSimpArgs false
open Go.RowKit

set_option maxRecDepth 20000 in
set_option maxHeartbeats 1000000 in
theorem keeps_long (words : Int) (v : Value) (q : Option Addr) (n c : Nat) (w : World) (hl : 1000 < n) :
    Calls Try.prog 3 #[.int .i64 words, v, .slice q n c] w fun e w' => e = .returned (.bool true) ∧ Below w.heap.size w w' := by
  have hl' : (1000 : Int) < (n : Int) := by omega
  have a := alive_in w
  go_enter Try.func3, Try.ntmps3
  go_wp2_with (first
    | (go_at_call 5; refine a.mono ?_; clear a; rintro e w1 ⟨rfl, hB1⟩; have a2 := alive_in w1)
    | (go_at_call 5; refine a2.mono ?_; clear a2; rintro e w2 ⟨rfl, hB2⟩))
  go_ret
  exact ⟨rfl, hB1.trans (hB2.mono hB1.size)⟩

theorem filter_alike {M : List Ob} {vs : List Vl} {f g : Ob → Bool} (hf : ∀ o ∈ M, f o = true ↔ Rch M vs o.at_) (hg : ∀ o ∈ M, g o = true ↔ Rch M vs o.at_) : M.filter f = M.filter g := by
  refine List.filter_congr (fun o ho => ?_)
  have := (hf o ho).trans (hg o ho).symm
  cases hx : f o <;> cases hy : g o <;> simp_all

theorem info3 : (Try.prog.info? 3).map (fun i => (i.zero, i.size, i.bytes)) = some (some (.int .i64 0), 1, 8) := by kernel_rfl

def lenV (o : Ob) : Value := .int .i64 o.ws.length

theorem fin_lens (M L : List Ob) : (fin M L).map lenV = L.map lenV := by
  unfold fin
  rw [List.map_map]
  refine List.map_congr_left (fun o _ => ?_)
  simp [lenV, relink_length]

theorem tight_at {l r : List Ob} {o : Ob} : ∀ {e : Nat}, Tight e (l ++ o :: r) → o.at_ = e + sumO l := by
  induction l with
  | nil => intro e h; simpa [sumO] using h.1
  | cons x l ih =>
    intro e h
    have := ih h.2
    rw [this, sumO_cons]; omega

set_option maxRecDepth 20000 in
set_option maxHeartbeats 2000000 in
theorem keeps_ok (words : Int) (p : Option Addr) (len cap : Nat) (q : Option Addr) (vs : List Vl) (cq : Nat) (w : World) (hl : len ≤ maxLen) (ht : ToldOps w p len) (hv : Vals w q vs) (hvl : vs.length ≤ 1000) (hk8 : ∀ v ∈ vs, v.k < 256) (hq0 : q = none → vs = [] ∧ cq = 0) :
    Calls Try.prog 3 #[.int .i64 words, .slice p len cap, .slice q vs.length cq] w fun e w' => e = .returned (.bool true) ∧ Below w.heap.size w w' := by
  have hvl' : ¬ ((1000 : Int) < (vs.length : Int)) := by omega
  have a := alive_in w
  go_enter Try.func3, Try.ntmps3
  go_wp2_with (first
    | (go_at_call 5; refine a.mono ?_; clear a; rintro e w1 ⟨rfl, hB1⟩
       have ht1 : ToldOps w1 p len := fun j hj => by
         obtain ⟨b0, off, e, v, q1, q2, q3, q4, hcl⟩ := ht j hj
         exact ⟨b0, off, e, v, q1, q2, q3, q4, fun w' hB' => hcl w' (hB1.trans (hB'.mono hB1.size))⟩
       have a2 := made_in words p len cap w1 hl ht1)
    | (go_at_call 6; refine a2.mono ?_; clear a2; rintro e w2 ⟨ph, pr, rfl, hM⟩))
  have hB2 : Below w.heap.size w w2 := hB1.trans (hM.1.mono hB1.size)
  have hv2 := hv.below hB2
  rcases hM.2 with ⟨rfl, rfl⟩ | ⟨bh, b, br, lim, s, rfl, rfl, hl1, hBo⟩
  · have a3 := gplaces (w := w2) (v := .pointer none) (.inl rfl)
    have a4 := greach_nil (.slice q vs.length cq) w2
    have a5 := gcollect_nil (.slice q vs.length cq) w2
    have a6 := same_nil w2
    go_wp2_with (first
      | (go_at_call 7; refine a3.mono ?_; rintro e w' ⟨rfl, rfl⟩)
      | (go_at_call 8; refine a4.mono ?_; rintro e w' ⟨rfl, rfl⟩)
      | (go_at_call 9; refine a5.mono ?_; rintro e w' ⟨rfl, rfl⟩)
      | (go_at_call 10; refine a6.mono ?_; clear a6; rintro e w3 ⟨rfl, hB3⟩))
    go_ret
    exact ⟨rfl, hB2.trans (hB3.mono hB2.size)⟩
  · have hp := hBo.hp
    obtain ⟨used, hus⟩ : ∃ u, s.used = u := ⟨_, rfl⟩
    obtain ⟨M, hMe⟩ : ∃ M, s.R.map Prod.fst = M := ⟨_, rfl⟩
    obtain ⟨vw, hvw⟩ : ∃ x, s.vw = x := ⟨_, rfl⟩
    obtain ⟨vb, hvb⟩ : ∃ x, s.vb = x := ⟨_, rfl⟩
    rw [hMe, hus, hvw, hvb] at hp
    clear hMe hus hvw hvb hBo hM s
    have hle := hp.le
    have hML := Srt.length_le hp.srt.1 hp.srt.2 (Nat.zero_le _)
    have a3 := placesM hp
    by_cases hmay : May M vs
    · have a4 : ∀ w', Below w2.heap.size w2 w' → Calls Try.prog 8 #[.pointer (some ⟨bh, 0, none⟩), .slice q vs.length cq] w' fun e w'' => ∃ (f : Ob → Bool) (q4 : Option Addr) (c4 : Nat), e = .returned (.tuple #[.slice q4 (M.filter f).length c4, .int .i64 (sumO (M.filter f) : Nat), .int .i64 0]) ∧ (∀ o ∈ M, f o = true ↔ Rch M vs o.at_) ∧
          w''.ownsRow w'.heap.size 2 1 (.slice q4 (M.filter f).length c4) (M.filter f).length ((M.filter f).map (fun o => pv o.at_)) ∧ Below w'.heap.size w' w'' := fun w' hB => by
        refine (reach_in (hp.below hB) hl1 cq (hv2.below hB) (by omega) hk8).mono ?_
        rintro e w'' ⟨hB', ⟨hm, _⟩ | ⟨_, f, q4, c4, hf, he, hrow⟩⟩
        · exact (hm hmay).elim
        · exact ⟨f, q4, c4, he, hf, hrow, hB'⟩
      obtain ⟨i3, hi, hz0, hz1, hz2⟩ := info_parts info3
      go_wp2_with (first
        | (go_at_call 7; refine a3.mono ?_; clear a3; rintro e w3 ⟨p3, c3, rfl, hrow3, hB3⟩)
        | (go_at_call 8; refine (a4 _ hB3).mono ?_; clear a4; rintro e w4 ⟨f, q4, c4, rfl, hf, hrow4, hB4⟩
           have hB24 := hB3.trans (hB4.mono hB3.size)
           obtain ⟨L, hL⟩ : ∃ L, M.filter f = L := ⟨_, rfl⟩
           rw [hL] at hrow4
           simp only [hL]))
      have hLm : ∀ o ∈ L, o ∈ M := fun o ho => by rw [← hL] at ho; exact (List.mem_filter.1 ho).1
      have hs : Srt 0 L := by rw [← hL]; exact hp.srt.1.filter
      have hLl := Srt.length_le hs (fun o ho => hp.srt.2 o (hLm o ho)) (Nat.zero_le _)
      have hLs := Srt.sum_used hs (fun o ho => hp.srt.2 o (hLm o ho)) (Nat.zero_le _)
      have hws : ∀ o ∈ L, o.ws.length ≤ 1048576 := fun o ho => by
        have := hp.srt.2 o (hLm o ho); unfold Ob.end_ at this; omega
      have hp4 := hp.below hB24
      clear hrow3
      go_loopw [15, 16] (fun t k wr => ∃ (pre rest : List Ob), L = pre ++ rest ∧ k = .int .i64 pre.length ∧ wr.ownsRow w4.heap.size 3 1 t pre.length (pre.map lenV) ∧ Below w4.heap.size w4 wr) (fun _ k _ => L.length - (intOf k).toNat)
      case atStart => exact ⟨[], L, rfl, rfl, World.ownsRow_nil _ _ _ _, Below.refl _ _⟩
      case round =>
        obtain ⟨pre, rest, hR, rfl, hrw, hB⟩ := hrel
        have hsz := hB.size
        cases rest with
        | nil =>
          have hR' : L = pre := by simpa using hR
          have hq : ¬ ((pre.length : Int) < (L.length : Int)) := by rw [hR']; omega
          rw [← hR'] at hrw
          clear hR hR'
          obtain ⟨pz, cz, rfl, _, _⟩ := IsAr.row_form hrw
          obtain ⟨F, hF⟩ : ∃ F, fin M L = F := ⟨_, rfl⟩
          obtain ⟨us, hus⟩ : ∃ us, vs.map (newRoot (dst 0 L)) = us := ⟨_, rfl⟩
          have hul : us.length = vs.length := by rw [← hus]; simp
          have hFl : F.length = L.length := by rw [← hF]; exact fin_length M L
          have hFs : sumO F = sumO L := by rw [← hF]; exact fin_sum M L
          have hre' : Reached M vs f := ⟨hmay, hf⟩
          have mayF : May F us := by have := may_fin hp.srt.1 hre'; rw [hL, hF, hus] at this; exact this
          have tightF : Tight 0 F := by rw [← hF]; exact fin_tight hs
          have reachF : ∀ g : Ob → Bool, (∀ o ∈ F, g o = true ↔ Rch F us o.at_) → F.filter g = F := by
            intro g hg
            have := reached_fin hp.srt.1 hre' (g := g)
            rw [hL, hF, hus] at this
            exact this hg
          have lenF : F.map lenV = L.map lenV := by rw [← hF]; exact fin_lens M L
          have hus8 : ∀ v ∈ us, v.k < 256 := fun v hvm => by have := (mayF v hvm).1; omega
          have hpr := hp4.below hB
          have hB2r : Below w.heap.size w wr := hB2.trans ((hB24.trans (hB.mono hB24.size)).mono hB2.size)
          have a5 : Calls Try.prog 9 #[.pointer (some ⟨bh, 0, none⟩), .slice q vs.length cq] wr fun e w' => ∃ p6 c6 vw' vb', e = .returned (.tuple #[.slice p6 vs.length c6, .int .i64 0]) ∧ OwnVals wr.heap.size (.slice p6 vs.length c6) us w' ∧ Hp w1.heap.size bh b vw' vb' w' lim (sumO L) F ∧ Step b vw vb wr vw' vb' w' := by
            refine (collect_ok hpr hl1 cq (hv.below hB2r) hq0 (by omega) hk8 (fun vw' vb' w' hS => hv.below (hB2r.trans ((hpr.stepBelow hS).mono hB1.size))) hmay).mono ?_
            rintro e w' ⟨v6, he, f6, vw6, vb6, hre, hown6, hp6, hS6⟩
            have hf6 : M.filter f6 = L := (filter_alike hre.iff hf).trans hL
            rw [hf6, hus] at hown6
            rw [hf6, hF] at hp6
            obtain ⟨p6, c6, rfl⟩ := hown6.form
            rw [hul] at he hown6
            exact ⟨p6, c6, vw6, vb6, he, hown6, hp6, hS6⟩
          have HX : Hid _ := And.intro hul (And.intro hFl (And.intro hFs (And.intro lenF reachF)))
          clear hL hF hus hul hFl hFs hf hre' lenF reachF hLm
          go_wp2_with (first
            | (go_at_call 9; refine a5.mono ?_; clear a5; rintro e w6 ⟨p6, c6, vw6, vb6, rfl, hown6, hp6, hS6⟩
               have a6 := usedM hp6
               have a7 := placesM hp6
               rw [HX.out.2.1] at a7
               have hrow6 := hpr.row hS6 hrw (by decide))
            | (go_at_call 12; refine a6.mono ?_; clear a6; rintro e w' ⟨rfl, hw'⟩; obtain rfl := hw'.symm)
            | (go_at_call 7; refine a7.mono ?_; clear a7; rintro e w7 ⟨p7, c7, rfl, hrow7, hB7⟩))
          have hBz6 : Below w.heap.size w w6 := hB2r.trans ((hpr.stepBelow hS6).mono hB1.size)
          have hp7 := hp6.below hB7
          have hown7 := hown6.below hB7
          have hrow6' := row_kept hrow6 (fun k hk => hB7.block k (hrow6.lt k hk).2)
          rw [← HX.out.2.2.2.1] at hrow6'
          have hBz7 : Below w.heap.size w w7 := hBz6.trans (hB7.mono hBz6.size)
          have hmF : ∀ o ∈ F, o.ws.length ≤ 1048576 ∧ o.end_ ≤ sumO L := fun o ho => by
            have := hp6.srt.2 o ho; unfold Ob.end_ at this ⊢; omega
          have hLF : Hid (F.length = L.length) := HX.out.2.1
          go_loopw [22, 23] (fun t k wr => ∃ (pre rest : List Ob), F = pre ++ rest ∧ t = .int .i64 (sumO pre : Nat) ∧ k = .int .i64 pre.length ∧ Below w7.heap.size w7 wr) (fun _ k _ => L.length - (intOf k).toNat)
          case atStart => exact ⟨[], F, rfl, rfl, rfl, Below.refl _ _⟩
          case round =>
            obtain ⟨pre, rest, hR, rfl, rfl, hBr⟩ := hrel
            cases rest with
            | nil =>
              have hR' : F = pre := by simpa using hR
              have hq : ¬ ((pre.length : Int) < (L.length : Int)) := by rw [← hLF.out, hR']; omega
              clear hR hR'
              have hpz := hp7.below hBr
              have hownz := hown7.below hBr
              have hBzr : Below w.heap.size w wr := hBz7.trans (hBr.mono hBz7.size)
              have a8 : Calls Try.prog 9 #[.pointer (some ⟨bh, 0, none⟩), .slice p6 vs.length c6] wr fun e w' => ∃ p8 c8 vw' vb', e = .returned (.tuple #[.slice p8 vs.length c8, .int .i64 0]) ∧ OwnVals wr.heap.size (.slice p8 vs.length c8) us w' ∧ Hp w1.heap.size bh b vw' vb' w' lim (sumO L) F ∧ Step b vw6 vb6 wr vw' vb' w' := by
                have hz := hownz
                rw [← HX.out.1] at hz
                have := collect_ok hpz hl1 c6 hz.vals (fun e => by
                  rcases hz.2 with ⟨h0, h0'⟩ | ⟨g, cap, cur, hg, _⟩
                  · injection h0 with _ _ hc; exact ⟨List.eq_nil_of_length_eq_zero h0', hc⟩
                  · injection hg with hg _ _; rw [e] at hg; cases hg) (by rw [HX.out.1]; omega) hus8 (fun vw' vb' w' hS => by
                    have := hpz.row hS hz (by decide)
                    exact OwnVals.vals (show OwnVals _ _ _ _ from this)) mayF
                rw [HX.out.1] at this
                refine this.mono ?_
                rintro e w' ⟨v8, he, f8, vw8, vb8, hre, hown8, hp8, hS8⟩
                rw [HX.out.2.2.2.2 f8 hre.iff] at hown8 hp8
                rw [tightF.dst_id, newRoot_id mayF] at hown8
                rw [fin_again tightF, HX.out.2.2.1] at hp8
                obtain ⟨p8, c8, rfl⟩ := hown8.form
                rw [HX.out.1] at he hown8
                exact ⟨p8, c8, vw8, vb8, he, hown8, hp8, hS8⟩
              go_wp2_with (first
                | (go_at_call 9; refine a8.mono ?_; clear a8; rintro e w8 ⟨p8, c8, vw8, vb8, rfl, hown8, hp8, hS8⟩))
              have a9 : Calls Try.prog 8 #[.pointer (some ⟨bh, 0, none⟩), .slice p6 vs.length c6] w8 fun e w' => ∃ q9 c9, e = .returned (.tuple #[.slice q9 L.length c9, .int .i64 (sumO L : Nat), .int .i64 0]) ∧ w'.ownsRow w8.heap.size 2 1 (.slice q9 L.length c9) L.length (F.map (fun o => pv o.at_)) ∧ Below w8.heap.size w8 w' := by
                have hz := hpz.row hS8 hownz (by decide)
                rw [← HX.out.1] at hz
                have := reach_in hp8 hl1 c6 (OwnVals.vals (show OwnVals _ _ _ _ from hz)) (by rw [HX.out.1]; omega) hus8
                rw [HX.out.1] at this
                refine this.mono ?_
                rintro e w' ⟨hB', ⟨hm, _⟩ | ⟨_, f, q9, c9, hf, he, hrow⟩⟩
                · exact (hm mayF).elim
                · rw [HX.out.2.2.2.2 f hf, HX.out.2.1] at he hrow
                  rw [HX.out.2.2.1] at he
                  exact ⟨q9, c9, he, hrow, hB'⟩
              go_wp2_with (first
                | (go_at_call 8; refine a9.mono ?_; clear a9; rintro e w9 ⟨q9, c9, rfl, hrow9, hB9⟩
                   have hz9 := row_kept (hpz.row hS8 hownz (by decide)) (fun k hk => hB9.block k ((hpz.row hS8 hownz (by decide)).lt k hk).2)
                   have hx9 := hown8.below hB9
                   rw [← HX.out.1] at hz9 hx9
                   have a10 := same_vals (c1 := c8) (c2 := c6) rfl (by rw [HX.out.1]; omega) (OwnVals.vals hx9) (OwnVals.vals (show OwnVals _ _ _ _ from hz9))
                   rw [HX.out.1] at a10)
                | (go_at_call 13; refine a10.mono ?_; clear a10; rintro e w10 ⟨rfl, hB10⟩
                   have hB810 := hB9.trans (hB10.mono hB9.size)
                   have a11 := placesM (hp8.below hB810)
                   rw [HX.out.2.1] at a11
                   have hr7 := row_kept hrow7 (fun k hk => hBr.block k (hrow7.lt k hk).2)
                   have hr8 := hpz.row hS8 hr7 (by decide)
                   have hr10 := row_kept hr8 (fun k hk => hB810.block k (hr8.lt k hk).2)
                   have hm10 := row_kept hrow9 (fun k hk => hB10.block k (hrow9.lt k hk).2))
                | (go_at_call 7; refine a11.mono ?_; clear a11; rintro e w11 ⟨p11, c11, rfl, hrow11, hB11⟩
                   have hr11 := row_kept hr10 (fun k hk => hB11.block k (hr10.lt k hk).2)
                   have hm11 := row_kept hm10 (fun k hk => hB11.block k (hm10.lt k hk).2)
                   have a12 := same_places (n := L.length) (c1 := c11) (c2 := c7) (p1 := p11) (p2 := p7) (L := F.map Ob.at_) (by simpa using HX.out.2.1.symm) (by omega) (by rw [List.map_map]; exact hrow11) (by rw [List.map_map]; exact hr11))
                | (go_at_call 10; refine a12.mono ?_; clear a12; rintro e w12 ⟨rfl, hB12⟩
                   have hr12 := row_kept hr11 (fun k hk => hB12.block k (hr11.lt k hk).2)
                   have hm12 := row_kept hm11 (fun k hk => hB12.block k (hm11.lt k hk).2)
                   have a13 := same_places (n := L.length) (c1 := c9) (c2 := c7) (p1 := q9) (p2 := p7) (L := F.map Ob.at_) (by simpa using HX.out.2.1.symm) (by omega) (by rw [List.map_map]; exact hm12) (by rw [List.map_map]; exact hr12))
                | (go_at_call 10; refine a13.mono ?_; clear a13; rintro e w13 ⟨rfl, hB13⟩))
              go_ret
              have k1 := hB810.trans (hB11.mono hB810.size)
              have k2 := k1.trans (hB12.mono k1.size)
              have k3 := k2.trans (hB13.mono k2.size)
              have k4 := hBzr.trans ((hpz.stepBelow hS8).mono hB1.size)
              exact ⟨rfl, k4.trans (k3.mono k4.size)⟩
            | cons o rest =>
              have hom : o ∈ F := by rw [hR]; simp
              have hlR : pre.length < L.length := by rw [← hLF.out, hR]; simp
              have hpq := hp7.below hBr
              rw [hR] at hpq tightF
              have H3 := sizeM hpq
              have hat := tight_at tightF
              rw [Nat.zero_add] at hat
              rw [hat] at H3
              obtain ⟨g7, rfl⟩ := row_where hrow7 (by omega)
              obtain ⟨gz, rfl⟩ := row_where hrow6' (by omega)
              have d1 : wr.cell? ⟨g7, pre.length, none⟩ = some (.int .i64 (sumO pre : Nat)) := row_cell (row_kept hrow7 (fun k hk => hBr.block k (hrow7.lt k hk).2)) (by rw [hR, ← hat]; simp [pv]) hlR
              have d2 := row_cell (u := .int .i64 o.ws.length) (j := pre.length) (row_kept hrow6' (fun k hk => hBr.block k (hrow6'.lt k hk).2)) (by rw [hR]; simp [lenV]) hlR
              have hwo := hmF o hom
              have e1 : (((pre ++ [o]).length : Nat) : Int) = pre.length + 1 := by simp
              have e2 : ((sumO (pre ++ [o]) : Nat) : Int) = sumO pre + o.ws.length + 1 := by rw [sumO_snoc]; simp; omega
              have hb5 : sumO pre + o.ws.length + 1 ≤ 1048576 := by
                have := HX.out.2.2.1
                rw [hR, sumO_append, sumO_cons] at this
                omega
              have HR : Hid _ := hR
              clear hR hat tightF
              go_wp2_with (first
                | (go_at_call 11; refine H3.mono ?_; clear H3; rintro e w' ⟨rfl, hw'⟩; obtain rfl := hw'.symm))
              go_roundw
              case rel =>
                refine ⟨pre ++ [o], rest, by have := HR.out; simpa using this, ?_, by rw [e1], hBr⟩
                rw [e2]
              case measure => simp [intOf]; omega
        | cons o rest =>
          have hom : o ∈ L := by rw [hR]; simp
          have hlR : pre.length < L.length := by rw [hR]; simp
          obtain ⟨lq, rq, hMq⟩ := List.append_of_mem (hLm o hom)
          have hpq := hp4.below hB
          rw [hMq] at hpq
          have H3 := sizeM hpq
          obtain ⟨g, rfl⟩ := row_where hrow4 (by omega)
          have d1 : wr.cell? ⟨g, pre.length, none⟩ = some (.int .i64 o.at_) := row_cell (row_kept hrow4 (fun k hk => hB.block k (hrow4.lt k hk).2)) (by rw [hR]; simp [pv]) hlR
          have hwo := hws o hom
          have e1 : (((pre ++ [o]).length : Nat) : Int) = pre.length + 1 := by simp
          have HR : Hid _ := hR
          clear hR hMq
          go_wp2_with (first
            | (go_at_call 11; refine H3.mono ?_; clear H3; rintro e w' ⟨rfl, rfl⟩)
            | (at_builtin; refine wpList_append_own _ rfl _ _ 37 rfl w4.heap.size 3 i3 (.int .i64 0) 1 8 Try.underlying37 hi hz0 hz1 hz2 rfl (by decide) _ pre.length _ rfl (hrw.alloc _) ⟨_, 0, none⟩ 1 1 [.int .i64 o.ws.length] rfl rfl (cell_one_new _ _ _) (by simp [Value.oneCell']) (by unfold maxLen; omega) (by omega) (by simp; omega) ?_; intro v5 w5 hown5 hgrow5 _))
          go_roundw
          case rel =>
            refine ⟨pre ++ [o], rest, by have := HR.out; simpa using this, by rw [e1], ?_, (hB.alloc hB.size _).trans (rbelow_grown hgrow5 (fun q e => (hrw.lt q e).1) (by simp; omega))⟩
            rw [List.map_append, show (pre ++ [o]).length = pre.length + 1 from List.length_append]
            exact hown5
          case measure => simp [intOf]; omega
    · have a5 := fun w' (hB : Below w2.heap.size w2 w') => collect_bad (hp.below hB) hl1 cq (hv2.below hB) (by omega) hk8 hmay
      have a4 : ∀ w', Below w2.heap.size w2 w' → Calls Try.prog 8 #[.pointer (some ⟨bh, 0, none⟩), .slice q vs.length cq] w' fun e w'' => e = .returned (.tuple #[.slice none 0 0, .int .i64 0, .int .i64 1]) ∧ Below w'.heap.size w' w'' := fun w' hB => by
        refine (reach_in (hp.below hB) hl1 cq (hv2.below hB) (by omega) hk8).mono ?_
        rintro e w'' ⟨hB', ⟨_, he⟩ | ⟨hm, _⟩⟩
        · exact ⟨he, hB'⟩
        · exact (hmay hm).elim
      go_wp2_with (first
        | (go_at_call 7; refine a3.mono ?_; clear a3; rintro e w3 ⟨p3, c3, rfl, hrow3, hB3⟩)
        | (go_at_call 8; refine (a4 _ hB3).mono ?_; clear a4; rintro e w4 ⟨rfl, hB4⟩; have hB24 := hB3.trans (hB4.mono hB3.size))
        | (go_at_call 9; refine (a5 _ hB24).mono ?_; clear a5; rintro e w5 ⟨rfl, hB5⟩; have hB25 := hB24.trans (hB5.mono hB24.size); have a6 := placesM (hp.below hB25))
        | (go_at_call 7; refine a6.mono ?_; clear a6; rintro e w6 ⟨p6, c6, rfl, hrow6, hB6⟩; have hB26 := hB25.trans (hB6.mono hB25.size); have hB36 := (hB4.trans (hB5.mono hB4.size)).trans (hB6.mono (hB4.trans (hB5.mono hB4.size)).size); have hrow36 := row_kept hrow3 (fun k hk => hB36.block k (hrow3.lt k hk).2); have a7 := same_places (n := M.length) (c1 := c6) (c2 := c3) (p1 := p6) (p2 := p3) (b1 := w5.heap.size) (b2 := w2.heap.size) (L := M.map Ob.at_) (by simp) (by omega) (by rw [List.map_map]; exact hrow6) (by rw [List.map_map]; exact hrow36))
        | (go_at_call 10; refine a7.mono ?_; clear a7; rintro e w7 ⟨rfl, hB7⟩))
      go_ret
      exact ⟨rfl, hB2.trans ((hB26.trans (hB7.mono hB26.size)).mono hB2.size)⟩

end Go.Proofs.Ytampilfebmfhaaa
