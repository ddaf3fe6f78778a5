/- gc's holds: which iterator tells what an object holds. -/
import Derived.Test.YtfnbllmnjndpaaaGcItems
namespace Go.Proofs.Ytfnbllmnjndpaaa
set_option linter.unusedVariables false
set_option linter.unusedSimpArgs false
open Go.RowKit Go.Shelf

attribute [local go_sem] Oper.semAt_some

variable {n₀ bh b lim used : Nat} {vw vb : Value} {w : World} {M : List Ob}

theorem items1_stops (n : Nat) (hn : 1 ≤ n) {lq rq : List Ob} {o : Ob} (P : Nat → Prop) (hP : ∀ k, (k = bh ∨ k = b ∨ vw.ownBlock = some k ∨ vb.ownBlock = some k) → P k) (Bh Ba : Nat) (hPh : P Bh) (hPa : P Ba) (hPl : ∀ k, P k → k < w.heap.size)
    {L : List Lk} (xs : List { x : Lk // x ∈ L }) (hxs : xs.map (·.val) = itemsL (lq ++ o :: rq) o.ws)
    (hW : Hp n₀ bh b vw vb w lim used (lq ++ o :: rq)) (ch : w.cell? ⟨Bh, 0, none⟩ = some (.pointer (some ⟨bh, 0, none⟩))) (ca : w.cell? ⟨Ba, 0, none⟩ = some (.int .i64 o.at_)) :
    SeqStopsK Fence.wide n Try.prog 127 #[.pointer (some ⟨Bh, 0, none⟩), .pointer (some ⟨Ba, 0, none⟩)] (fun x : { x : Lk // x ∈ L } => #[lkv x.val]) (KpP P) (fun ys => ys = xs) (fun pre => pre <+: xs) xs.length w := by
  intro l J Jx W hBl hJ hJx hY h0
  have hk : KpP P w W := fun k hk => hBl.block k (hPl k hk)
  exact items1_in n l hn P Bh Ba xs hxs J Jx W hJ hY (hW.keptP hP hk) (hk.cell hPh ch) (hk.cell hPa ca) h0

set_option maxHeartbeats 400000 in
theorem none1_stops (n : Nat) {L : List Lk} (P : Nat → Prop) (xs : List { x : Lk // x ∈ L }) (hxs : xs = []) :
    SeqStopsK Fence.wide n Try.prog 106 #[] (fun x : { x : Lk // x ∈ L } => #[lkv x.val]) (KpP P) (fun ys => ys = xs) (fun pre => pre <+: xs) xs.length w := by
  intro l J Jx W hBl hJ hJx hY h0
  subst hxs
  refine callsIn_of_wp Try.func106 rfl trivial ?_ rfl
  gi_wp2
  refine bodyPost_end (results_none (by rfl) _ _ _) (by rfl) ?_
  exact ⟨⟨_, rfl⟩, .inl h0⟩

set_option maxHeartbeats 400000 in
theorem items_mk (at_ : Int) (w : World) : Calls Try.prog 104 #[.pointer (some ⟨bh, 0, none⟩), .int .i64 at_] w fun e w' =>
    e = .returned (.func (.func 127) #[] #[.pointer (some ⟨w.heap.size, 0, none⟩), .pointer (some ⟨w.heap.size + 1, 0, none⟩)]) ∧ w' = (w.alloc (.cells #[.pointer (some ⟨bh, 0, none⟩)] 25)).alloc (.cells #[.int .i64 at_] 2) := by
  go_enter Try.func104, Try.ntmps104
  go_wp2
  go_ret
  exact ⟨rfl, rfl⟩

set_option maxHeartbeats 400000 in
theorem pairs_mk (at_ f t : Int) (w : World) : Calls Try.prog 105 #[.pointer (some ⟨bh, 0, none⟩), .int .i64 at_, .int .i64 f, .int .i64 t] w fun e w' =>
    e = .returned (.func (.func 128) #[] #[.pointer (some ⟨w.heap.size + 1 + 1, 0, none⟩), .pointer (some ⟨w.heap.size + 1 + 1 + 1, 0, none⟩), .pointer (some ⟨w.heap.size, 0, none⟩), .pointer (some ⟨w.heap.size + 1, 0, none⟩)]) ∧
      w' = (((w.alloc (.cells #[.pointer (some ⟨bh, 0, none⟩)] 25)).alloc (.cells #[.int .i64 at_] 2)).alloc (.cells #[.int .i64 f] 3)).alloc (.cells #[.int .i64 t] 3) := by
  go_enter Try.func105, Try.ntmps105
  go_wp2
  go_ret
  exact ⟨rfl, rfl⟩

/-- A value that can be ranged over, and tells what an object holds. -/
def Teller (bh b : Nat) (vw vb : Value) (M : List Ob) (o : Ob) (n0 : Nat) (v : Value) (w : World) : Prop :=
  ∃ gf lb, v = .func (.func gf) #[] lb ∧ (∀ args w, (callFunc gf args).run Try.prog w = .ok (.enter gf args) w) ∧
    ∀ (n : Nat), 1 ≤ n → ∀ (P : Nat → Prop), (∀ k, (k = bh ∨ k = b ∨ vw.ownBlock = some k ∨ vb.ownBlock = some k) → P k) → (∀ k, n0 ≤ k → k < w.heap.size → P k) → (∀ k, P k → k < w.heap.size) →
      ∀ (L : List Lk) (xs : List { x : Lk // x ∈ L }), xs.map (·.val) = links M o →
        SeqStopsK Fence.wide n Try.prog gf lb (fun x : { x : Lk // x ∈ L } => #[lkv x.val]) (KpP P) (fun ys => ys = xs) (fun pre => pre <+: xs) xs.length w

theorem below_2 (w : World) (o1 o2 : Obj) : Below w.heap.size w ((w.alloc o1).alloc o2) := (below1 w o1).alloc (by simp) _
theorem below_4 (w : World) (o1 o2 o3 o4 : Obj) : Below w.heap.size w ((((w.alloc o1).alloc o2).alloc o3).alloc o4) := ((below_2 w o1 o2).alloc (by simp; omega) _).alloc (by simp; omega) _

theorem teller_items {lq rq : List Ob} {o : Ob} (h : Hp n₀ bh b vw vb w lim used (lq ++ o :: rq)) (hk : o.kind = 4 ∨ o.kind = 5) :
    Teller bh b vw vb (lq ++ o :: rq) o w.heap.size (.func (.func 127) #[] #[.pointer (some ⟨w.heap.size, 0, none⟩), .pointer (some ⟨w.heap.size + 1, 0, none⟩)]) ((w.alloc (.cells #[.pointer (some ⟨bh, 0, none⟩)] 25)).alloc (.cells #[.int .i64 o.at_] 2)) := by
  refine ⟨_, _, rfl, enters_of Try.func127 (by kernel_rfl) rfl, fun n hn P hP h1 h2 L xs hxs => ?_⟩
  have c0 := cell_new_l w (.pointer (some ⟨bh, 0, none⟩)) 25
  have c1 := cell_new_l (w.alloc (.cells #[.pointer (some ⟨bh, 0, none⟩)] 25)) (.int .i64 o.at_) 2
  simp only [World.size_alloc] at c1 h1
  refine items1_stops n hn P hP _ _ (h1 _ (Nat.le_refl _) (by omega)) (h1 _ (by omega) (by omega)) h2 xs (hxs.trans ?_) (h.below (below_2 _ _ _)) (cell_alloc_l _ c0.1) c1.1
  unfold links; rw [if_pos hk]

theorem teller_pairs {lq rq : List Ob} {o : Ob} (h : Hp n₀ bh b vw vb w lim used (lq ++ o :: rq)) (f t : Nat) (hf : f ≤ 1) (ht : t ≤ o.ws.length) (hl : links (lq ++ o :: rq) o = prs (lq ++ o :: rq) f ((o.ws.take t).drop f)) :
    Teller bh b vw vb (lq ++ o :: rq) o w.heap.size (.func (.func 128) #[] #[.pointer (some ⟨w.heap.size + 1 + 1, 0, none⟩), .pointer (some ⟨w.heap.size + 1 + 1 + 1, 0, none⟩), .pointer (some ⟨w.heap.size, 0, none⟩), .pointer (some ⟨w.heap.size + 1, 0, none⟩)])
      ((((w.alloc (.cells #[.pointer (some ⟨bh, 0, none⟩)] 25)).alloc (.cells #[.int .i64 o.at_] 2)).alloc (.cells #[.int .i64 f] 3)).alloc (.cells #[.int .i64 t] 3)) := by
  refine ⟨_, _, rfl, enters_of Try.func128 (by kernel_rfl) rfl, fun n hn P hP h1 h2 L xs hxs => ?_⟩
  have c0 := cell_new_l w (.pointer (some ⟨bh, 0, none⟩)) 25
  have c1 := cell_new_l (w.alloc (.cells #[.pointer (some ⟨bh, 0, none⟩)] 25)) (.int .i64 o.at_) 2
  have c2 := cell_new_l ((w.alloc (.cells #[.pointer (some ⟨bh, 0, none⟩)] 25)).alloc (.cells #[.int .i64 o.at_] 2)) (.int .i64 f) 3
  have c3 := cell_new_l (((w.alloc (.cells #[.pointer (some ⟨bh, 0, none⟩)] 25)).alloc (.cells #[.int .i64 o.at_] 2)).alloc (.cells #[.int .i64 f] 3)) (.int .i64 t) 3
  simp only [World.size_alloc] at c1 c2 c3 h1
  exact pairs1_stops n hn P hP _ _ _ _ (h1 _ (by omega) (by omega)) (h1 _ (by omega) (by omega)) (h1 _ (by omega) (by omega)) (h1 _ (by omega) (by omega)) h2 f t ht hf xs (hxs.trans hl) (h.below (below_4 _ _ _ _ _)) (cell_alloc_l _ c2.1) c3.1 (cell_alloc_l _ (cell_alloc_l _ (cell_alloc_l _ c0.1))) (cell_alloc_l _ (cell_alloc_l _ c1.1))

set_option maxRecDepth 20000 in
set_option maxHeartbeats 1000000 in
theorem holds_in {lq rq : List Ob} {o : Ob} (h : Hp n₀ bh b vw vb w lim used (lq ++ o :: rq)) :
    Calls Try.prog 73 #[.pointer (some ⟨bh, 0, none⟩), .int .i64 o.at_] w fun e w' => ∃ v, e = .returned v ∧ Below w.heap.size w w' ∧ Teller bh b vw vb (lq ++ o :: rq) o w.heap.size v w' := by
  have H1 := kindM h
  have H2 := sizeM h
  have hkn : 3 ≤ o.kind ∧ o.kind ≤ 8 := by
    obtain ⟨A, _, h2, _⟩ := h; exact h2.knd o (by simp)
  have hsz : o.ws.length ≤ 1048576 := by
    have := h.srt.2 o (by simp); have := h.le; unfold Ob.end_ at *; omega
  have H3 := items_mk (bh := bh) (o.at_ : Int) w
  have H4 := fun f t : Int => pairs_mk (bh := bh) (o.at_ : Int) f t w
  rcases (by omega : o.kind = 3 ∨ o.kind = 4 ∨ o.kind = 5 ∨ o.kind = 6 ∨ o.kind = 7 ∨ o.kind = 8) with hk | hk | hk | hk | hk | hk
  · rw [hk] at H1
    have ht : Teller bh b vw vb (lq ++ o :: rq) o w.heap.size (.func (.func 106) #[] #[]) w :=
      ⟨_, _, rfl, enters_of Try.func106 (by kernel_rfl) rfl, fun n hn P hP h1 h2 L xs hxs => none1_stops n P xs (List.map_eq_nil_iff.1 (hxs.trans (by simp [links, hk])))⟩
    have HT : Hid _ := ht
    clear h ht hk hkn
    go_enter Try.func73, Try.ntmps73
    go_wp2_with (first
      | (go_at_call 63; refine H1.mono ?_; clear H1; rintro e w' ⟨rfl, rfl⟩)
      | (go_at_call 12; refine H2.mono ?_; clear H2; rintro e w' ⟨rfl, rfl⟩))
    go_ret
    exact ⟨_, rfl, Below.refl _ _, HT.out⟩
  · rw [hk] at H1
    have HT : Hid _ := teller_items h (.inl hk)
    clear h hk hkn
    go_enter Try.func73, Try.ntmps73
    go_wp2_with (first
      | (go_at_call 63; refine H1.mono ?_; clear H1; rintro e w' ⟨rfl, rfl⟩)
      | (go_at_call 12; refine H2.mono ?_; clear H2; rintro e w' ⟨rfl, rfl⟩)
      | (go_at_call 104; refine H3.mono ?_; clear H3; rintro e w' ⟨rfl, rfl⟩))
    go_ret
    exact ⟨_, rfl, below_2 _ _ _, HT.out⟩
  · rw [hk] at H1
    have HT : Hid _ := teller_items h (.inr hk)
    clear h hk hkn
    go_enter Try.func73, Try.ntmps73
    go_wp2_with (first
      | (go_at_call 63; refine H1.mono ?_; clear H1; rintro e w' ⟨rfl, rfl⟩)
      | (go_at_call 12; refine H2.mono ?_; clear H2; rintro e w' ⟨rfl, rfl⟩)
      | (go_at_call 104; refine H3.mono ?_; clear H3; rintro e w' ⟨rfl, rfl⟩))
    go_ret
    exact ⟨_, rfl, below_2 _ _ _, HT.out⟩
  · rw [hk] at H1
    have HT : Hid _ := teller_pairs h 1 o.ws.length (by omega) (Nat.le_refl _) (by simp [links, hk])
    clear h hk hkn
    go_enter Try.func73, Try.ntmps73
    go_wp2_with (first
      | (go_at_call 63; refine H1.mono ?_; clear H1; rintro e w' ⟨rfl, rfl⟩)
      | (go_at_call 12; refine H2.mono ?_; clear H2; rintro e w' ⟨rfl, rfl⟩)
      | (go_at_call 105; refine (H4 _ _).mono ?_; clear H4; rintro e w' ⟨rfl, rfl⟩))
    go_ret
    exact ⟨_, rfl, below_4 _ _ _ _ _, HT.out⟩
  · rw [hk] at H1
    have hmn : min o.ws.length 2 ≤ o.ws.length := by omega
    have HT : Hid _ := teller_pairs h 0 (min o.ws.length 2) (by omega) hmn (by simp [links, hk]; rw [Nat.min_comm, ← List.take_take]; simp)
    clear h hk hkn
    by_cases h2 : o.ws.length ≤ 2
    · have e2 : min o.ws.length 2 = o.ws.length := by omega
      rw [e2] at HT
      go_enter Try.func73, Try.ntmps73
      go_wp2_with (first
        | (go_at_call 63; refine H1.mono ?_; clear H1; rintro e w' ⟨rfl, rfl⟩)
        | (go_at_call 12; refine H2.mono ?_; clear H2; rintro e w' ⟨rfl, rfl⟩)
        | (go_at_call 105; refine (H4 _ _).mono ?_; clear H4; rintro e w' ⟨rfl, rfl⟩))
      go_ret
      exact ⟨_, rfl, below_4 _ _ _ _ _, HT.out⟩
    · have e2 : min o.ws.length 2 = 2 := by omega
      rw [e2] at HT
      go_enter Try.func73, Try.ntmps73
      go_wp2_with (first
        | (go_at_call 63; refine H1.mono ?_; clear H1; rintro e w' ⟨rfl, rfl⟩)
        | (go_at_call 12; refine H2.mono ?_; clear H2; rintro e w' ⟨rfl, rfl⟩)
        | (go_at_call 105; refine (H4 _ _).mono ?_; clear H4; rintro e w' ⟨rfl, rfl⟩))
      go_ret
      exact ⟨_, rfl, below_4 _ _ _ _ _, HT.out⟩
  · rw [hk] at H1
    have HT : Hid _ := teller_pairs h 0 o.ws.length (by omega) (Nat.le_refl _) (by simp [links, hk])
    clear h hk hkn
    go_enter Try.func73, Try.ntmps73
    go_wp2_with (first
      | (go_at_call 63; refine H1.mono ?_; clear H1; rintro e w' ⟨rfl, rfl⟩)
      | (go_at_call 12; refine H2.mono ?_; clear H2; rintro e w' ⟨rfl, rfl⟩)
      | (go_at_call 105; refine (H4 _ _).mono ?_; clear H4; rintro e w' ⟨rfl, rfl⟩))
    go_ret
    exact ⟨_, rfl, below_4 _ _ _ _ _, HT.out⟩

end Go.Proofs.Ytfnbllmnjndpaaa
