/- Lists and maps: add. -/
import Derived.Test.YtkombdkhodjckaaGreatObRow
import Derived.Test.YtkombdkhodjckaaGreatGcVals
namespace Go.Proofs.YtkombdkhodjckaaGreat
set_option linter.unusedVariables false
set_option linter.unusedSimpArgs false
open Go.RowKit

variable {n₀ bh b lim used : Nat} {vw vb : Value} {w : World} {M : List Ob}

/-- Values laid one behind the other. -/
def lays (ws : List Nat) (i : Nat) : List Vl → List Nat
  | [] => ws
  | v :: r => lays (lay ws i v.k v.n) (i + 2) r

theorem lays_len : ∀ (l : List Vl) (ws : List Nat) (i : Nat), (lays ws i l).length = ws.length
  | [], _, _ => rfl
  | v :: r, ws, i => by rw [lays, lays_len r, lay_len]

theorem lays_snoc : ∀ (l : List Vl) (ws : List Nat) (i : Nat) (v : Vl), lays ws i (l ++ [v]) = lay (lays ws i l) (i + 2 * l.length) v.k v.n
  | [], ws, i, v => rfl
  | u :: r, ws, i, v => by
    simp only [List.cons_append, lays, lays_snoc r, List.length_cons]
    rw [show i + 2 + 2 * r.length = i + 2 * (r.length + 1) by omega]

/-- Values in memory, in a block of values. -/
structure ValsT (w : World) (p : Option Addr) (vs : List Vl) : Prop where
  vals : Vals w p vs
  typ : ∀ b0 off, p = some ⟨b0, off, none⟩ → ∃ cur, w.heap[b0]? = some (.cells cur 29 (0, 0))

theorem ValsT.below {p : Option Addr} {vs : List Vl} (h : ValsT w p vs) {w' : World} (hB : Below w.heap.size w w') : ValsT w' p vs :=
  ⟨h.vals.below hB, fun b0 off e => by obtain ⟨cur, hc⟩ := h.typ b0 off e; exact ⟨cur, (hB.block b0 (Array.getElem?_eq_some_iff.1 hc).1).trans hc⟩⟩

theorem ValsT.step {p : Option Addr} {vs : List Vl} (h : ValsT w p vs) (hp : Hp n₀ bh b vw vb w lim used M) {vw' vb' : Value} {w' : World} (hS : Step b vw vb w vw' vb' w') : ValsT w' p vs := by
  refine ⟨fun j v hj => ?_, fun b0 off e => ?_⟩
  · obtain ⟨b0, off, e, h1, h2⟩ := h.vals j v hj
    obtain ⟨cur, hc⟩ := h.typ b0 off e
    have := hp.stays hS hc (fun cur t e => by cases e; decide)
    exact ⟨b0, off, e, by rw [World.cell?, this]; exact h1, by rw [World.cell?, this]; exact h2⟩
  · obtain ⟨cur, hc⟩ := h.typ b0 off e
    exact ⟨cur, (hp.stays hS hc (fun cur t e => by cases e; decide)).trans hc⟩

/-- The object at a place has these words. -/
def put (M : List Ob) (a : Nat) (ws : List Nat) : List Ob := M.map (fun o => if o.at_ = a then { o with ws := ws } else o)

theorem at_inj : ∀ {M : List Ob} {lo : Nat}, Srt lo M → ∀ {o o' : Ob}, o ∈ M → o' ∈ M → o.at_ = o'.at_ → o = o' := by
  intro M lo h o o' ho ho' e
  obtain ⟨l, r, rfl⟩ := List.append_of_mem ho
  rcases List.mem_append.1 ho' with h1 | h1
  · have := Srt.apart h o' h1 o (by simp)
    unfold Ob.end_ at this; omega
  · rcases List.mem_cons.1 h1 with rfl | h1
    · rfl
    · have h2 := ((Srt_append l (o :: r) lo).1 h).2
      have := Srt.lo h2.2 o' h1
      unfold Ob.end_ at this; omega

theorem put_split {l r : List Ob} {o : Ob} {lo : Nat} (h : Srt lo (l ++ o :: r)) (ws : List Nat) : put (l ++ o :: r) o.at_ ws = l ++ { o with ws := ws } :: r := by
  have hne : ∀ q, q ∈ l ∨ q ∈ r → q.at_ ≠ o.at_ := by
    intro q hq e
    rcases hq with hq | hq
    · have := Srt.apart h q hq o (by simp)
      unfold Ob.end_ at this; omega
    · have := Srt.lo ((Srt_append l (o :: r) lo).1 h).2.2 q hq
      unfold Ob.end_ at this; omega
  unfold put
  rw [List.map_append, List.map_cons, if_pos rfl]
  congr 1
  · exact (List.map_congr_left (g := id) (fun q hq => by rw [if_neg (hne q (.inl hq))]; rfl)).trans (List.map_id l)
  · congr 1
    exact (List.map_congr_left (g := id) (fun q hq => by rw [if_neg (hne q (.inr hq))]; rfl)).trans (List.map_id r)

theorem put_mem {o : Ob} (ho : o ∈ M) (ws : List Nat) : { o with ws := ws } ∈ put M o.at_ ws := List.mem_map.2 ⟨o, ho, by rw [if_pos rfl]⟩

theorem put_other {o : Ob} (ho : o ∈ M) {a : Nat} (h : o.at_ ≠ a) (ws : List Nat) : o ∈ put M a ws := List.mem_map.2 ⟨o, ho, by rw [if_neg h]⟩

theorem put_put (a : Nat) (ws ws' : List Nat) : put (put M a ws) a ws' = put M a ws' := by
  unfold put
  rw [List.map_map]
  refine List.map_congr_left (fun o _ => ?_)
  simp only [Function.comp]
  split <;> simp_all

theorem put_is {a : Nat} {ws : List Nat} (k : Nat) (n : Int) : Is (put M a ws) k n ↔ Is M k n := by
  unfold Is put
  constructor
  · rintro ⟨o, ho, e1, e2⟩
    obtain ⟨q, hq, rfl⟩ := List.mem_map.1 ho
    refine ⟨q, hq, ?_, ?_⟩
    · rw [← e1]; split <;> rfl
    · rw [← e2]; split <;> rfl
  · rintro ⟨o, ho, e1, e2⟩
    refine ⟨_, List.mem_map.2 ⟨o, ho, rfl⟩, ?_, ?_⟩
    · rw [← e1]; split <;> rfl
    · rw [← e2]; split <;> rfl

theorem put_self {o : Ob} {lo : Nat} (h : Srt lo M) (ho : o ∈ M) : put M o.at_ o.ws = M := by
  obtain ⟨l, r, rfl⟩ := List.append_of_mem ho
  rw [put_split h]

theorem write_at (h : Hp n₀ bh b vw vb w lim used M) {o : Ob} (ho : o ∈ M) (i v : Nat) (hi : i < o.ws.length) (hv : v < 18446744073709551616) :
    Calls Tryz.prog 54 #[.pointer (some ⟨bh, 0, none⟩), .int .i64 o.at_, .int .i64 i, .int .u64 v] w fun e w' => e = .returned (.int .i64 0) ∧
      Hp n₀ bh b vw vb w' lim used (put M o.at_ (o.ws.set i v)) ∧ Step b vw vb w vw vb w' := by
  obtain ⟨l, r, rfl⟩ := List.append_of_mem ho
  rw [put_split h.srt.1]
  exact writeM h i v hi hv

theorem hold_at (h : Hp n₀ bh b vw vb w lim used M) {o : Ob} (ho : o ∈ M) (cnt room first i k : Nat) (n : Int) (hf : first ≤ 1) (hi : first + 2 * i + 1 < o.ws.length) (hk : k < 256) :
    Calls Tryz.prog 59 #[mem bh, .agg #[.int .i64 cnt, .int .i64 room, .int .i64 o.at_, .int .i64 first], .int .i64 i, .agg #[.int .u8 k, .int .i64 n]] w fun e w' => e = .returned (.tuple #[]) ∧ Hp n₀ bh b vw vb w' lim used (put M o.at_ (lay o.ws (first + 2 * i) k n)) ∧ Step b vw vb w vw vb w' := by
  obtain ⟨l, r, rfl⟩ := List.append_of_mem ho
  rw [put_split h.srt.1]
  exact hold_in h cnt room first i k n hf hi hk

theorem value_at (h : Hp n₀ bh b vw vb w lim used M) {o : Ob} (ho : o ∈ M) (cnt room first i : Nat) (hf : first ≤ 1) (hi : i ≤ 1048576) :
    Calls Tryz.prog 47 #[mem bh, .agg #[.int .i64 cnt, .int .i64 room, .int .i64 o.at_, .int .i64 first], .int .i64 i] w fun e w' => e = .returned (.agg #[.int .u8 (valK o.ws (first + 2 * i)), .int .i64 (valN o.ws (first + 2 * i))]) ∧ Below w.heap.size w w' := by
  obtain ⟨l, r, rfl⟩ := List.append_of_mem ho
  exact value_in h cnt room first i hf hi

set_option maxRecDepth 20000 in
set_option maxHeartbeats 1000000 in
theorem add_at (h : Hp n₀ bh b vw vb w lim used M) {o q : Ob} (ho : o ∈ M) (hq : q ∈ M) (hne : o.at_ ≠ q.at_) (cnt room : Nat) {p : Option Addr} {vs : List Vl} (c : Nat) (hv : ValsT w p vs) (hk8 : ∀ v ∈ vs, v.k < 256) (hr : 2 * (cnt + vs.length) ≤ q.ws.length) (ho1 : 1 ≤ o.ws.length) :
    Calls Tryz.prog 55 #[mem bh, .int .i64 o.at_, .agg #[.int .i64 cnt, .int .i64 room, .int .i64 q.at_, .int .i64 0], .slice p vs.length c] w fun e w' => e = .returned (.tuple #[]) ∧
      Hp n₀ bh b vw vb w' lim used (put (put M q.at_ (lays q.ws (2 * cnt) vs)) o.at_ (o.ws.set 0 (cnt + vs.length))) ∧ Step b vw vb w vw vb w' := by
  have h20 : q.ws.length ≤ 1048576 := by
    have := h.srt.2 q hq; have := h.le; unfold Ob.end_ at *; omega
  have hb2 := below2' w (.cells #[.pointer (some ⟨bh, 0, none⟩)] 54) (.cells #[.int .i64 cnt, .int .i64 room, .int .i64 q.at_, .int .i64 0] 58)
  have HV : Hid (∀ k, vw.ownBlock = some k → k < w.heap.size) := fun k e => (h.blocks k (.inr (.inr (.inl e)))).2.1
  unfold mem
  go_enter Tryz.func55, Tryz.ntmps55
  go_wp2
  have HN : Hid (o.at_ ≠ q.at_) := hne
  have HK : Hid _ := hk8
  clear hne hk8
  go_loopw [12] (fun k wr => ∃ (pre rest : List Vl), k = .int .i64 pre.length ∧ Hid (vs = pre ++ rest) ∧ Hp n₀ bh b vw vb wr lim used (put M q.at_ (lays q.ws (2 * cnt) pre)) ∧ Step b vw vb w vw vb wr ∧ ValsT wr p vs ∧
    wr.heap[w.heap.size]? = some (.cells #[.pointer (some ⟨bh, 0, none⟩)] 54 (0, 0)) ∧ wr.heap[w.heap.size + 1]? = some (.cells #[.int .i64 cnt, .int .i64 room, .int .i64 q.at_, .int .i64 0] 58 (0, 0))) (fun k _ => vs.length - (intOf k).toNat)
  case atStart =>
    refine ⟨[], vs, rfl, rfl, ?_, Step.belowL hb2 (Step.refl _ _ _ _) HV.out, hv.below hb2, (Below.heap_alloc _ _ w.heap.size (by simp)).trans (heap_alloc_new w _), heap_two w _ _⟩
    simp only [lays]
    rw [put_self h.srt.1 hq]
    exact h.below hb2
  case round =>
    obtain ⟨pre, rest, rfl, hR, hp, hS, hvr, m1, m2⟩ := hrel
    cases rest with
    | nil =>
      have hR' : vs = pre := by simpa using hR.out
      have hl : ¬ ((pre.length : Int) < (vs.length : Int)) := by rw [hR']; omega
      rw [← hR'] at hp
      have ho' : o ∈ put M q.at_ (lays q.ws (2 * cnt) vs) := put_other ho HN.out _
      have H2 := write_at hp ho' 0 (cnt + vs.length) (by omega) (by omega)
      simp only [Int.natCast_add, show ((0 : Nat) : Int) = 0 from rfl] at H2
      have c0 := cell_row1 m1
      obtain ⟨⟨d0, d1, d2, d3⟩, _⟩ := cell_row4 m2
      have HR' : Hid _ := hR'
      clear hR'
      go_wp2_with (first
        | (go_at_call 54; refine H2.mono ?_; clear H2; rintro e w2 ⟨rfl, hp2, hS2⟩))
      go_end0
      exact ⟨rfl, hp2, hS.trans hS2⟩
    | cons v rest =>
      have hlR : pre.length < vs.length := by rw [hR.out]; simp
      have hlR' : (pre.length : Int) < (vs.length : Int) := by omega
      have hvk := HK.out v (by rw [hR.out]; simp)
      obtain ⟨b0, off, hp0, c0, c1⟩ := hvr.vals pre.length v (by rw [hR.out]; simp)
      have H1 := hold_at (hp.below (below1 wr (.cells #[.int .u8 v.k, .int .i64 v.n] 29))) (put_mem hq _) cnt room 0 (cnt + pre.length) v.k v.n (by omega) (by simp only [lays_len]; omega) hvk
      simp only [Int.natCast_add, show ((0 : Nat) : Int) = 0 from rfl] at H1
      have e1 : (((pre ++ [v]).length : Nat) : Int) = pre.length + 1 := by simp
      have k1 := alloc_keeps m1 (.cells #[.int .u8 v.k, .int .i64 v.n] 29)
      have k2 := alloc_keeps m2 (.cells #[.int .u8 v.k, .int .i64 v.n] 29)
      have x0 := cell_row1 k1
      obtain ⟨⟨d0, d1, d2, d3⟩, _⟩ := cell_row4 k2
      have hb1 := below1 wr (.cells #[.int .u8 v.k, .int .i64 v.n] 29)
      unfold mem at H1
      subst hp0
      go_wp2_with (first
        | (go_at_call 59; refine H1.mono ?_; clear H1; rintro e w2 ⟨rfl, hp2, hS2⟩))
      go_roundw
      case rel =>
        have hpb := hp.below hb1
        refine ⟨pre ++ [v], rest, by rw [e1], by have := hR.out; show vs = _; simpa using this, ?_, ?_, (hvr.below hb1).step hpb hS2, (hpb.stays hS2 k1 (fun cur t e => by cases e; decide)).trans k1, (hpb.stays hS2 k2 (fun cur t e => by cases e; decide)).trans k2⟩
        · rw [put_put] at hp2
          rw [lays_snoc, show 2 * cnt + 2 * pre.length = 0 + 2 * (cnt + pre.length) by omega]
          exact hp2
        · exact hS.trans (Step.belowL hb1 hS2 (fun k e => (hp.blocks k (.inr (.inr (.inl e)))).2.1))
      case measure => simp [intOf]; omega

end Go.Proofs.YtkombdkhodjckaaGreat
