/- ObjectIsMap: the world of the law, and each call in it. -/
import Derived.Test.YtkombdkhodjckaaIsMapOps
import Derived.Test.YtkombdkhodjckaaIsMapPut
namespace Go.Proofs.Ytkombdkhodjckaa
set_option linter.unusedVariables false
set_option linter.unusedSimpArgs false
open Go.RowKit Go.Maps

/-- What a call leaves: what lies below, and what is of values. -/
structure Kp (n₀ : Nat) (w w' : World) : Prop where
  below : Below n₀ w w'
  val : ∀ (k : Nat) (cur : Array Value), w.heap[k]? = some (.cells cur 26 (0, 0)) → w'.heap[k]? = w.heap[k]?

theorem Kp.refl (n₀ : Nat) (w : World) : Kp n₀ w w := ⟨Below.refl _ _, fun _ _ _ => rfl⟩

theorem Kp.trans {n₀ : Nat} {w w' w'' : World} (h : Kp n₀ w w') (g : Kp n₀ w' w'') : Kp n₀ w w'' := ⟨h.below.trans g.below, fun k cur hk => by
  have h1 := h.val k cur hk
  exact (g.val k cur (h1.trans hk)).trans h1⟩

theorem Kp.of {n₀ : Nat} {w w' : World} (hB : Below w.heap.size w w') (hn : n₀ ≤ w.heap.size) : Kp n₀ w w' := ⟨hB.mono hn, fun k cur hk => hB.block k (Array.getElem?_eq_some_iff.1 hk).1⟩

theorem Kp.row {n₀ base n : Nat} {w w' : World} (h : Kp n₀ w w') {t : Value} {xs : List Value} (hr : w.ownsRow base 26 2 t n xs) : w'.ownsRow base 26 2 t n xs := row_kept hr (fun k e => by
  obtain ⟨cur, hc⟩ := row_obj hr e
  exact h.val k cur hc)

theorem Kp.bx {n₀ g k : Nat} {n : Int} {w w' : World} (h : Kp n₀ w w') (hb : Bx w g k n) : Bx w' g k n := (h.val _ _ hb).trans hb

/-- The world of the law. -/
structure Ws (n₀ bh b B5 B7 B9 B11 B12 : Nat) (tb : Bool) (w : World) (used : Nat) (M : List Ob) (nv : List (Int × Int)) : Prop where
  hp : ∃ vw vb, Hp n₀ bh b vw vb w 40000 used M
  b5 : w.heap[B5]? = some (.cells #[.bool tb] 4 (0, 0))
  l5 : B5 < n₀
  b7 : w.heap[B7]? = some (.cells #[.pointer (some ⟨bh, 0, none⟩)] 22 (0, 0))
  b9 : w.heap[B9]? = some (.cells #[.func (.func 15) #[] #[.pointer (some ⟨B5, 0, none⟩)]] 42 (0, 0))
  nv : ∃ sn sv, NV w n₀ B11 B12 nv sn sv

variable {n₀ bh b B5 B7 B9 B11 B12 used : Nat} {tb : Bool} {w : World} {M : List Ob} {nv : List (Int × Int)}

theorem Ws.n₀le (h : Ws n₀ bh b B5 B7 B9 B11 B12 tb w used M nv) : n₀ ≤ w.heap.size := by
  obtain ⟨vw, vb, hp⟩ := h.hp
  have := hp.blocks bh (.inl rfl)
  omega

theorem Ws.below (h : Ws n₀ bh b B5 B7 B9 B11 B12 tb w used M nv) {w' : World} (hB : Below w.heap.size w w') : Ws n₀ bh b B5 B7 B9 B11 B12 tb w' used M nv := by
  obtain ⟨vw, vb, hp⟩ := h.hp
  obtain ⟨sn, sv, hnv⟩ := h.nv
  exact ⟨⟨vw, vb, hp.below hB⟩, (hB.block _ (Array.getElem?_eq_some_iff.1 h.b5).1).trans h.b5, h.l5, (hB.block _ (Array.getElem?_eq_some_iff.1 h.b7).1).trans h.b7, (hB.block _ (Array.getElem?_eq_some_iff.1 h.b9).1).trans h.b9, sn, sv, hnv.below hB⟩

theorem Ws.kp (h : Ws n₀ bh b B5 B7 B9 B11 B12 tb w used M nv) {w' : World} (hB : Below w.heap.size w w') : Kp n₀ w w' := Kp.of hB h.n₀le

/-- A step of the heap. -/
theorem Ws.step (h : Ws n₀ bh b B5 B7 B9 B11 B12 tb w used M nv) {vw vb vw' vb' : Value} (hp : Hp n₀ bh b vw vb w 40000 used M) {w' : World} {used' : Nat} {M' : List Ob} (hS : Step b vw vb w vw' vb' w') (hp' : Hp n₀ bh b vw' vb' w' 40000 used' M') : Ws n₀ bh b B5 B7 B9 B11 B12 tb w' used' M' nv ∧ Kp n₀ w w' := by
  obtain ⟨sn, sv, hnv⟩ := h.nv
  refine ⟨⟨⟨vw', vb', hp'⟩, ((hp.stepBelow hS).block _ h.l5).trans h.b5, h.l5, (hp.stays hS h.b7 (fun cur t e => by cases e; decide)).trans h.b7, (hp.stays hS h.b9 (fun cur t e => by cases e; decide)).trans h.b9, sn, sv, hnv.kept (fun k cur t hk ht => hp.stays hS hk (fun cur' t' e => by cases e; rcases ht with rfl | rfl <;> decide))⟩, hp.stepBelow hS, fun k cur hk => hp.stays hS hk (fun cur' t' e => by cases e; decide)⟩

/-- A key. -/
theorem Ws.key (h : Ws n₀ bh b B5 B7 B9 B11 B12 tb w used M nv) (n : Int) (hn : Rng n) (hf : used + 3 ≤ 40000) :
    Calls Try.prog 14 #[.int .i64 n, .pointer (some ⟨B5, 0, none⟩), .pointer (some ⟨B7, 0, none⟩)] w fun e w' => ∃ (v : Vl) (used' : Nat) (M' : List Ob), e = .returned (.agg #[.int .u8 v.k, .int .i64 v.n]) ∧ Ws n₀ bh b B5 B7 B9 B11 B12 tb w' used' M' nv ∧ KeyIs M' tb v (nameI tb n) ∧ used' ≤ used + 3 ∧ (∀ x ∈ M, x ∈ M') ∧ Kp n₀ w w' := by
  obtain ⟨vw, vb, hp⟩ := h.hp
  refine (key_in hp (by omega) n hn h.b5 h.b7 hf).mono ?_
  rintro e w' ⟨v, vw', vb', used', M', he, hp', hS, hk, hu, hM⟩
  have := h.step hp hS hp'
  exact ⟨v, used', M', he, this.1, hk, hu, hM, this.2⟩

/-- A name is put down. -/
theorem Ws.put (h : Ws n₀ bh b B5 B7 B9 B11 B12 tb w used M nv) (n x : Int) (hn : Rng n) (hl : nv.length ≤ 1000) :
    Calls Try.prog 16 #[.int .i64 n, .int .i64 x, .pointer (some ⟨B11, 0, none⟩), .pointer (some ⟨B9, 0, none⟩), .pointer (some ⟨B12, 0, none⟩)] w fun e w' => e = .returned (.tuple #[]) ∧ Ws n₀ bh b B5 B7 B9 B11 B12 tb w' used M (putNV nv (nameI tb n) x) ∧ Kp n₀ w w' := by
  obtain ⟨vw, vb, hp⟩ := h.hp
  obtain ⟨sn, sv, hnv⟩ := h.nv
  refine (put_in hnv h.b5 h.b9 n x hn hl).mono ?_
  rintro e w' ⟨he, sn', sv', hnv', hB, hT⟩
  refine ⟨he, ⟨⟨vw, vb, hp.kept (fun k hk => ?_)⟩, (hT _ _ _ h.b5 (by decide) (by decide)).trans h.b5, h.l5, (hT _ _ _ h.b7 (by decide) (by decide)).trans h.b7, (hT _ _ _ h.b9 (by decide) (by decide)).trans h.b9, sn', sv', hnv'⟩, hB, fun k cur hk => hT _ _ _ hk (by decide) (by decide)⟩
  obtain ⟨_, _, cur, t, hc, ht⟩ := hp.blocks k hk
  exact hT k cur t hc (by rcases ht with rfl | rfl | rfl | rfl <;> decide) (by rcases ht with rfl | rfl | rfl | rfl <;> decide)

/-- The map's calls. -/
theorem Ws.mput (h : Ws n₀ bh b B5 B7 B9 B11 B12 tb w used M nv) {at_ room inn : Nat} {mv : List (Int × Int)} (hM : Mp M tb at_ mv room inn) {key : Vl} {m x : Int} (hk : KeyIs M tb key m) (hx : Rng x) (hn : mv.length ≤ 160) (hr : room ≤ 700) (hf : used + 5000 ≤ 40000) :
    Calls Try.prog 18 #[.pointer (some ⟨bh, 0, none⟩), .agg #[.int .u8 5, .int .i64 at_], .agg #[.int .u8 key.k, .int .i64 key.n], .agg #[.int .u8 2, .int .i64 x]] w fun e w' => e = .returned (.int .i64 0) ∧
      ∃ used' M' room' inn', Ws n₀ bh b B5 B7 B9 B11 B12 tb w' used' M' nv ∧ Mp M' tb at_ (putNV mv m x) room' inn' ∧ room' ≤ 700 ∧ used' + 5 * room ≤ used + 5 * room' ∧ Kp n₀ w w' := by
  obtain ⟨vw, vb, hp⟩ := h.hp
  refine (hM.put hp (by omega) hk hx (by omega) (by omega) (by omega)).mono ?_
  rintro e w' ⟨he, vw', vb', hS, used', M', room', inn', hp', hM', hc⟩
  have := h.step hp hS hp'
  exact ⟨he, used', M', room', inn', this.1, hM', by omega, by omega, this.2⟩

theorem Ws.mnew (h : Ws n₀ bh b B5 B7 B9 B11 B12 tb w used M nv) {ps : List (Vl × Vl)} {raw : List (Int × Int)} (rel : Rel M tb ps raw) {p : Option Addr} (c : Nat) (hv : ValsT w p (flat ps)) (hn : raw.length ≤ 60) (hf : used + 1000 ≤ 40000) :
    Calls Try.prog 17 #[.pointer (some ⟨bh, 0, none⟩), .slice p (2 * raw.length) c] w fun e w' => e = .returned (.tuple #[.agg #[.int .u8 5, .int .i64 used], .int .i64 0]) ∧
      ∃ used' M' inn, Ws n₀ bh b B5 B7 B9 B11 B12 tb w' used' M' nv ∧ Mp M' tb used (foldNV raw) (2 * raw.length) inn ∧ used' ≤ used + 4 + 4 * raw.length ∧ Kp n₀ w w' := by
  obtain ⟨vw, vb, hp⟩ := h.hp
  refine (Mp.new rel hp (by omega) c hv (by omega) (by omega)).mono ?_
  rintro e w' ⟨he, vw', vb', hS, used', M', inn, hp', hM', hc⟩
  have := h.step hp hS hp'
  exact ⟨he, used', M', inn, this.1, hM', hc, this.2⟩

theorem Ws.mget (h : Ws n₀ bh b B5 B7 B9 B11 B12 tb w used M nv) {at_ room inn : Nat} {l r : List (Int × Int)} {m x : Int} (hM : Mp M tb at_ (l ++ (m, x) :: r) room inn) {key : Vl} (hk : KeyIs M tb key m) (hno : ∀ q ∈ l, q.1 ≠ m) (hn : (l ++ (m, x) :: r).length ≤ 1000) :
    Calls Try.prog 12 #[.pointer (some ⟨bh, 0, none⟩), .agg #[.int .u8 5, .int .i64 at_], .agg #[.int .u8 key.k, .int .i64 key.n]] w fun e w' => e = .returned (.tuple #[.agg #[.int .u8 2, .int .i64 x], .int .i64 0]) ∧ Below w.heap.size w w' := by
  obtain ⟨vw, vb, hp⟩ := h.hp
  exact hM.get hp (by omega) hk hno hn

theorem Ws.mget_no (h : Ws n₀ bh b B5 B7 B9 B11 B12 tb w used M nv) {at_ room inn : Nat} {mv : List (Int × Int)} (hM : Mp M tb at_ mv room inn) (hn : mv.length ≤ 1000) :
    Calls Try.prog 12 #[.pointer (some ⟨bh, 0, none⟩), .agg #[.int .u8 5, .int .i64 at_], .agg #[.int .u8 1, .int .i64 1]] w fun e w' => e = .returned (.tuple #[.agg #[.int .u8 0, .int .i64 0], .int .i64 0]) ∧ Below w.heap.size w w' := by
  obtain ⟨vw, vb, hp⟩ := h.hp
  exact hM.get_no hp (by omega) hn

theorem Ws.mlen (h : Ws n₀ bh b B5 B7 B9 B11 B12 tb w used M nv) {at_ room inn : Nat} {mv : List (Int × Int)} (hM : Mp M tb at_ mv room inn) (hn : mv.length ≤ 1000) :
    Calls Try.prog 10 #[.pointer (some ⟨bh, 0, none⟩), .agg #[.int .u8 5, .int .i64 at_]] w fun e w' => e = .returned (.tuple #[.int .i64 mv.length, .int .i64 0]) ∧ Below w.heap.size w w' := by
  obtain ⟨vw, vb, hp⟩ := h.hp
  exact hM.len_in hp (by omega) hn

theorem Ws.mitems (h : Ws n₀ bh b B5 B7 B9 B11 B12 tb w used M nv) {at_ room inn : Nat} {mv : List (Int × Int)} (hM : Mp M tb at_ mv room inn) (hn : mv.length ≤ 1000) :
    Calls Try.prog 19 #[.pointer (some ⟨bh, 0, none⟩), .agg #[.int .u8 5, .int .i64 at_]] w fun e w' => ∃ p c ps, e = .returned (.tuple #[.slice p (2 * mv.length) c, .int .i64 0]) ∧ Rel M tb ps mv ∧ w'.ownsRow w.heap.size 26 2 (.slice p (2 * mv.length) c) (2 * mv.length) (vcells (flat ps)) ∧ Below w.heap.size w w' := by
  obtain ⟨vw, vb, hp⟩ := h.hp
  exact hM.items_in hp (by omega) hn

theorem Ws.msame (h : Ws n₀ bh b B5 B7 B9 B11 B12 tb w used M nv) {x y : Vl} {m : Int} (hx : KeyIs M tb x m) (hy : KeyIs M tb y m) :
    Calls Try.prog 11 #[.pointer (some ⟨bh, 0, none⟩), .agg #[.int .u8 x.k, .int .i64 x.n], .agg #[.int .u8 y.k, .int .i64 y.n]] w fun e w' => e = .returned (.bool true) ∧ Below w.heap.size w w' := by
  obtain ⟨vw, vb, hp⟩ := h.hp
  exact same_keys hp (by omega) hx hy

/-- All but values is as it was. -/
theorem Ws.keptV (h : Ws n₀ bh b B5 B7 B9 B11 B12 tb w used M nv) {w' : World} (hk : ∀ (k : Nat) (cur : Array Value) (t : TypeId), w.heap[k]? = some (.cells cur t (0, 0)) → t ≠ 26 → w'.heap[k]? = w.heap[k]?) : Ws n₀ bh b B5 B7 B9 B11 B12 tb w' used M nv := by
  obtain ⟨vw, vb, hp⟩ := h.hp
  obtain ⟨sn, sv, hnv⟩ := h.nv
  refine ⟨⟨vw, vb, hp.kept (fun k e => ?_)⟩, (hk _ _ _ h.b5 (by decide)).trans h.b5, h.l5, (hk _ _ _ h.b7 (by decide)).trans h.b7, (hk _ _ _ h.b9 (by decide)).trans h.b9, sn, sv, hnv.kept (fun k cur t hc ht => hk k cur t hc (by rcases ht with rfl | rfl <;> decide))⟩
  obtain ⟨_, _, cur, t, hc, ht⟩ := hp.blocks k e
  exact hk k cur t hc (by rcases ht with rfl | rfl | rfl | rfl <;> decide)

/-- A row of values grows. -/
theorem Ws.grown (h : Ws n₀ bh b B5 B7 B9 B11 B12 tb w used M nv) {t : Value} {n : Nat} {zs : List Value} (hr : w.ownsRow n₀ 26 2 t n zs) {Wa w' : World} (hA : Below w.heap.size w Wa) (hg : Wa.grownBy w' t.ownBlock) : Ws n₀ bh b B5 B7 B9 B11 B12 tb w' used M nv ∧ Below n₀ w w' := by
  have hn := h.n₀le
  have hs := hA.size
  refine ⟨h.keptV (fun k cur ty hk hty => ?_), (hA.mono hn).trans (rbelow_grown hg (fun k e => (hr.lt k e).1) (by omega))⟩
  have hlt := (Array.getElem?_eq_some_iff.1 hk).1
  refine (hg.block k (by omega) (fun e => ?_)).trans (hA.block k hlt)
  obtain ⟨cur', hc⟩ := row_obj hr e.symm
  rw [hk] at hc
  cases hc
  exact hty rfl

/-- Behind a key. -/
def KeyFin (n₀ bh b B5 B7 B9 B11 B12 : Nat) (tb : Bool) (used : Nat) (M : List Ob) (nv : List (Int × Int)) (v : Vl) (m : Int) (wr wf : World) : Prop := ∃ used' M', Ws n₀ bh b B5 B7 B9 B11 B12 tb wf used' M' nv ∧ KeyIs M' tb v m ∧ used' ≤ used + 3 ∧ (∀ x ∈ M, x ∈ M') ∧ Kp n₀ wr wf

theorem KeyFin.below {v : Vl} {m : Int} {wr wf wf' : World} (h : KeyFin n₀ bh b B5 B7 B9 B11 B12 tb used M nv v m wr wf) (hB : Below wf.heap.size wf wf') : KeyFin n₀ bh b B5 B7 B9 B11 B12 tb used M nv v m wr wf' := by
  obtain ⟨used', M', h1, h2, h3, h4, h5⟩ := h
  exact ⟨used', M', h1.below hB, h2, h3, h4, h5.trans (h1.kp hB)⟩

theorem Ws.keyF (h : Ws n₀ bh b B5 B7 B9 B11 B12 tb w used M nv) (n : Int) (hn : Rng n) (hf : used + 3 ≤ 40000) (W : World) (hB : Below w.heap.size w W) :
    Calls Try.prog 14 #[.int .i64 n, .pointer (some ⟨B5, 0, none⟩), .pointer (some ⟨B7, 0, none⟩)] W fun e w' => ∃ v : Vl, e = .returned (.agg #[.int .u8 v.k, .int .i64 v.n]) ∧ KeyFin n₀ bh b B5 B7 B9 B11 B12 tb used M nv v (nameI tb n) w w' := by
  refine ((h.below hB).key n hn hf).mono ?_
  rintro e w' ⟨v, used', M', he, h1, h2, h3, h4, h5⟩
  exact ⟨v, he, used', M', h1, h2, h3, h4, (h.kp hB).trans h5⟩

theorem KeyFin.cells {v : Vl} {m : Int} {wr wf : World} {B15 at_ : Nat} (h : KeyFin n₀ bh b B5 B7 B9 B11 B12 tb used M nv v m wr wf) (hb : Bx wr B15 5 at_) : Below n₀ wr wf ∧ wf.cell? ⟨B7, 0, none⟩ = some (.pointer (some ⟨bh, 0, none⟩)) ∧ wf.cell? ⟨B15, 0, none⟩ = some (.int .u8 5) ∧ wf.cell? ⟨B15, 1, none⟩ = some (.int .i64 at_) := by
  obtain ⟨used', M', h1, h2, h3, h4, h5⟩ := h
  have := (h5.bx hb).cells
  exact ⟨h5.below, cell_row1 h1.b7, this.1.1, this.1.2⟩

theorem KeyFin.mput {v : Vl} {m x : Int} {wr wf : World} {at_ room inn : Nat} {mv : List (Int × Int)} (h : KeyFin n₀ bh b B5 B7 B9 B11 B12 tb used M nv v m wr wf) (hM : Mp M tb at_ mv room inn) (hx : Rng x) (hn : mv.length ≤ 160) (hr : room ≤ 700) (hf : used + 6000 ≤ 40000) :
    Calls Try.prog 18 #[.pointer (some ⟨bh, 0, none⟩), .agg #[.int .u8 5, .int .i64 at_], .agg #[.int .u8 v.k, .int .i64 v.n], .agg #[.int .u8 2, .int .i64 x]] wf fun e w' => e = .returned (.int .i64 0) ∧
      ∃ used' M' room' inn', Ws n₀ bh b B5 B7 B9 B11 B12 tb w' used' M' nv ∧ Mp M' tb at_ (putNV mv m x) room' inn' ∧ room' ≤ 700 ∧ used' + 5 * room ≤ used + 3 + 5 * room' ∧ Kp n₀ wr w' := by
  obtain ⟨used', M', h1, h2, h3, h4, h5⟩ := h
  refine (h1.mput (hM.more h4) h2 hx hn hr (by omega)).mono ?_
  rintro e w' ⟨he, used'', M'', room', inn', g1, g2, g3, g4, g5⟩
  exact ⟨he, used'', M'', room', inn', g1, g2, g3, by omega, h5.trans g5⟩

/-! ### Names -/
theorem Nms.nil : Nms tb [] := ⟨fun l q r e => by simp at e, by simp⟩

theorem Nms.put (h : Nms tb nv) {n x : Int} (hx : Rng x) : Nms tb (putNV nv (nameI tb n) x) := by
  have hr : Rng (nameI tb n) := nameI_range tb n
  rcases putNV_cases (nameI tb n) nv with hno | ⟨l, y, r, rfl, hno⟩
  · rw [putNV_no hno]
    refine ⟨fun l' q r' e p hp => ?_, fun q hq => ?_⟩
    · rcases List.eq_nil_or_concat r' with rfl | ⟨r2, z, rfl⟩
      · have := List.append_inj' e rfl
        obtain ⟨rfl, e2⟩ := this
        simp at e2
        rw [← e2]
        exact hno p hp
      · have e' : nv ++ [(nameI tb n, x)] = (l' ++ q :: r2) ++ [z] := by rw [e]; simp
        have := List.append_inj' e' rfl
        exact h.1 l' q r2 this.1 p hp
    · rcases List.mem_append.1 hq with hq | hq
      · exact h.2 q hq
      · simp at hq; subst hq; exact ⟨nameI_idem n, hr, hx⟩
  · rw [putNV_yes hno]
    have hmap : ∀ (l' : List (Int × Int)) (q : Int × Int) (r' : List (Int × Int)), l ++ (nameI tb n, x) :: r = l' ++ q :: r' → ∃ l2 q2 r2, l ++ (nameI tb n, y) :: r = l2 ++ q2 :: r2 ∧ l2.map Prod.fst = l'.map Prod.fst ∧ q2.1 = q.1 := by
      intro l' q r' e
      have e1 := congrArg (List.map Prod.fst) e
      simp only [List.map_append, List.map_cons] at e1
      have hlt : l'.length < (l ++ (nameI tb n, y) :: r).length := by
        have := congrArg List.length e
        simp at this ⊢
        omega
      have e2 : (l ++ (nameI tb n, y) :: r) = (l ++ (nameI tb n, y) :: r).take l'.length ++ (l ++ (nameI tb n, y) :: r)[l'.length] :: (l ++ (nameI tb n, y) :: r).drop (l'.length + 1) := by
        rw [← List.drop_eq_getElem_cons hlt, List.take_append_drop]
      refine ⟨_, _, _, e2, ?_, ?_⟩
      · rw [List.map_take, List.map_append, List.map_cons, e1, List.take_append_of_le_length (by simp)]
        exact List.take_of_length_le (by simp)
      · have e3 : ((l ++ (nameI tb n, y) :: r).map Prod.fst)[l'.length]? = some q.1 := by
          rw [List.map_append, List.map_cons, e1, List.getElem?_append_right (by simp)]
          simp
        rw [List.getElem?_map, List.getElem?_eq_getElem hlt] at e3
        simpa using e3
    refine ⟨fun l' q r' e p hp => ?_, fun q hq => ?_⟩
    · obtain ⟨l2, q2, r2, f1, f2, f3⟩ := hmap l' q r' e
      rw [← f3]
      have hpm : p.1 ∈ l2.map Prod.fst := by rw [f2]; exact List.mem_map_of_mem hp
      obtain ⟨p2, hp2, ep⟩ := List.mem_map.1 hpm
      rw [← ep]
      exact h.1 l2 q2 r2 f1 p2 hp2
    · rcases List.mem_append.1 hq with hq | hq
      · exact h.2 q (by simp [hq])
      · rcases List.mem_cons.1 hq with rfl | hq
        · exact ⟨nameI_idem n, hr, hx⟩
        · exact h.2 q (by simp [hq])

theorem putNV_len (m x : Int) (nv : List (Int × Int)) : nv.length ≤ (putNV nv m x).length ∧ (putNV nv m x).length ≤ nv.length + 1 := by
  rcases putNV_cases m nv with hno | ⟨l, y, r, rfl, hno⟩
  · rw [putNV_no hno]; simp
  · rw [putNV_yes hno]; simp

end Go.Proofs.Ytkombdkhodjckaa

namespace Go.Proofs.Ytkombdkhodjckaa
set_option linter.unusedVariables false
set_option linter.unusedSimpArgs false
open Go.RowKit Go.Maps

/-- All that stands while the map is asked. -/
structure Lz (n₀ bh b B5 B7 B9 B11 B12 B15 at_ : Nat) (tb : Bool) (nv : List (Int × Int)) (pn : Option Addr) (cn : Nat) (pv : Option Addr) (cv : Nat) (pi : Option Addr) (ci : Nat) (ps : List (Vl × Vl)) (w : World) (used : Nat) (M : List Ob) (room inn : Nat) : Prop where
  ws : Ws n₀ bh b B5 B7 B9 B11 B12 tb w used M nv
  nvs : NV w n₀ B11 B12 nv (.slice pn nv.length cn) (.slice pv nv.length cv)
  mp : Mp M tb at_ nv room inn
  bx : Bx w B15 5 at_
  rel : Rel M tb ps nv
  row : w.ownsRow n₀ 26 2 (.slice pi (2 * nv.length) ci) (2 * nv.length) (vcells (flat ps))

variable {n₀ bh b B5 B7 B9 B11 B12 B15 at_ : Nat} {tb : Bool} {nv : List (Int × Int)} {pn : Option Addr} {cn : Nat} {pv : Option Addr} {cv : Nat} {pi : Option Addr} {ci : Nat} {ps : List (Vl × Vl)} {w : World} {used : Nat} {M : List Ob} {room inn : Nat}

theorem Lz.below (h : Lz n₀ bh b B5 B7 B9 B11 B12 B15 at_ tb nv pn cn pv cv pi ci ps w used M room inn) {w' : World} (hB : Below w.heap.size w w') : Lz n₀ bh b B5 B7 B9 B11 B12 B15 at_ tb nv pn cn pv cv pi ci ps w' used M room inn :=
  ⟨h.ws.below hB, h.nvs.below hB, h.mp, h.bx.below hB, h.rel, (h.ws.kp hB).row h.row⟩

/-- With so much in use, and a key that bears a name. -/
structure Lkk (n₀ bh b B5 B7 B9 B11 B12 B15 at_ : Nat) (tb : Bool) (nv : List (Int × Int)) (pn : Option Addr) (cn : Nat) (pv : Option Addr) (cv : Nat) (pi : Option Addr) (ci : Nat) (ps : List (Vl × Vl)) (U : Nat) (v : Vl) (m : Int) (w : World) : Prop where
  x : ∃ used M room inn, used ≤ U ∧ Lz n₀ bh b B5 B7 B9 B11 B12 B15 at_ tb nv pn cn pv cv pi ci ps w used M room inn ∧ KeyIs M tb v m

structure Lww (n₀ bh b B5 B7 B9 B11 B12 B15 at_ : Nat) (tb : Bool) (nv : List (Int × Int)) (pn : Option Addr) (cn : Nat) (pv : Option Addr) (cv : Nat) (pi : Option Addr) (ci : Nat) (ps : List (Vl × Vl)) (U : Nat) (w : World) : Prop where
  x : ∃ used M room inn, used ≤ U ∧ Lz n₀ bh b B5 B7 B9 B11 B12 B15 at_ tb nv pn cn pv cv pi ci ps w used M room inn

theorem Lww.below {U : Nat} (h : Lww n₀ bh b B5 B7 B9 B11 B12 B15 at_ tb nv pn cn pv cv pi ci ps U w) {w' : World} (hB : Below w.heap.size w w') : Lww n₀ bh b B5 B7 B9 B11 B12 B15 at_ tb nv pn cn pv cv pi ci ps U w' := by
  obtain ⟨used, M, room, inn, h1, h2⟩ := h
  exact ⟨used, M, room, inn, h1, h2.below hB⟩

theorem Lkk.below {U : Nat} {v : Vl} {m : Int} (h : Lkk n₀ bh b B5 B7 B9 B11 B12 B15 at_ tb nv pn cn pv cv pi ci ps U v m w) {w' : World} (hB : Below w.heap.size w w') : Lkk n₀ bh b B5 B7 B9 B11 B12 B15 at_ tb nv pn cn pv cv pi ci ps U v m w' := by
  obtain ⟨used, M, room, inn, h1, h2, h3⟩ := h
  exact ⟨used, M, room, inn, h1, h2.below hB, h3⟩

theorem Lkk.lw {U : Nat} {v : Vl} {m : Int} (h : Lkk n₀ bh b B5 B7 B9 B11 B12 B15 at_ tb nv pn cn pv cv pi ci ps U v m w) : Lww n₀ bh b B5 B7 B9 B11 B12 B15 at_ tb nv pn cn pv cv pi ci ps U w := by
  obtain ⟨used, M, room, inn, h1, h2, h3⟩ := h
  exact ⟨used, M, room, inn, h1, h2⟩

theorem Lww.n₀le {U : Nat} (h : Lww n₀ bh b B5 B7 B9 B11 B12 B15 at_ tb nv pn cn pv cv pi ci ps U w) : n₀ ≤ w.heap.size := by
  obtain ⟨used, M, room, inn, h1, h2⟩ := h
  exact h2.ws.n₀le

theorem Lww.bx {U : Nat} (h : Lww n₀ bh b B5 B7 B9 B11 B12 B15 at_ tb nv pn cn pv cv pi ci ps U w) : Bx w B15 5 at_ := by
  obtain ⟨used, M, room, inn, h1, h2⟩ := h
  exact h2.bx

/-- A key. -/
theorem Lww.key {U : Nat} (h : Lww n₀ bh b B5 B7 B9 B11 B12 B15 at_ tb nv pn cn pv cv pi ci ps U w) (n : Int) (hn : Rng n) (hU : U + 3 ≤ 40000) (W : World) (hB : Below w.heap.size w W) :
    Calls Try.prog 14 #[.int .i64 n, .pointer (some ⟨B5, 0, none⟩), .pointer (some ⟨B7, 0, none⟩)] W fun e w' => ∃ v : Vl, e = .returned (.agg #[.int .u8 v.k, .int .i64 v.n]) ∧ Lkk n₀ bh b B5 B7 B9 B11 B12 B15 at_ tb nv pn cn pv cv pi ci ps (U + 3) v (nameI tb n) w' ∧ Kp n₀ W w' := by
  obtain ⟨used, M, room, inn, h1, h2⟩ := h.below hB
  obtain ⟨vw, vb, hp⟩ := h2.ws.hp
  refine (key_in hp (by omega) n hn h2.ws.b5 h2.ws.b7 (by omega)).mono ?_
  rintro e w' ⟨v, vw', vb', used', M', he, hp', hS, hk, hu, hM⟩
  obtain ⟨s1, s2⟩ := h2.ws.step hp hS hp'
  exact ⟨v, he, ⟨used', M', room, inn, by omega, ⟨s1, h2.nvs.kept (fun k cur t hk ht => hp.stays hS hk (fun cur' t' e => by cases e; rcases ht with rfl | rfl <;> decide)), h2.mp.more hM, s2.bx h2.bx, h2.rel.kept (fun x hx _ => hM x hx), s2.row h2.row⟩, hk⟩, s2⟩

/-- Get of it. -/
theorem Lkk.get {U : Nat} {v : Vl} {m x : Int} (h : Lkk n₀ bh b B5 B7 B9 B11 B12 B15 at_ tb nv pn cn pv cv pi ci ps U v m w) {l r : List (Int × Int)} (e : nv = l ++ (m, x) :: r) (hno : ∀ q ∈ l, q.1 ≠ m) (hn : nv.length ≤ 1000) :
    Calls Try.prog 12 #[.pointer (some ⟨bh, 0, none⟩), .agg #[.int .u8 5, .int .i64 at_], .agg #[.int .u8 v.k, .int .i64 v.n]] w fun e w' => e = .returned (.tuple #[.agg #[.int .u8 2, .int .i64 x], .int .i64 0]) ∧ Below w.heap.size w w' := by
  subst e
  obtain ⟨used, M, room, inn, h1, h2, h3⟩ := h
  exact h2.ws.mget h2.mp h3 hno hn

theorem Lkk.same {U : Nat} {v x : Vl} {m : Int} (h : Lkk n₀ bh b B5 B7 B9 B11 B12 B15 at_ tb nv pn cn pv cv pi ci ps U v m w) {i : Nat} {q : Int × Int} {p : Vl × Vl} (hq : nv[i]? = some q) (hp : ps[i]? = some p) (hm : m = q.1) :
    Calls Try.prog 11 #[.pointer (some ⟨bh, 0, none⟩), .agg #[.int .u8 p.1.k, .int .i64 p.1.n], .agg #[.int .u8 v.k, .int .i64 v.n]] w fun e w' => e = .returned (.bool true) ∧ Below w.heap.size w w' := by
  obtain ⟨used, M, room, inn, h1, h2, h3⟩ := h
  obtain ⟨p', e1, e2, _⟩ := h2.rel.get hq
  rw [hp] at e1
  cases e1
  exact h2.ws.msame e2 (hm ▸ h3)

theorem Lww.get_no {U : Nat} (h : Lww n₀ bh b B5 B7 B9 B11 B12 B15 at_ tb nv pn cn pv cv pi ci ps U w) (hn : nv.length ≤ 1000) :
    Calls Try.prog 12 #[.pointer (some ⟨bh, 0, none⟩), .agg #[.int .u8 5, .int .i64 at_], .agg #[.int .u8 1, .int .i64 1]] w fun e w' => e = .returned (.tuple #[.agg #[.int .u8 0, .int .i64 0], .int .i64 0]) ∧ Below w.heap.size w w' := by
  obtain ⟨used, M, room, inn, h1, h2⟩ := h
  exact h2.ws.mget_no h2.mp hn

/-- What is read. -/
theorem Lww.cells {U i : Nat} {q : Int × Int} {p : Vl × Vl} {gn gv gi : Nat} (h : Lww n₀ bh b B5 B7 B9 B11 B12 B15 at_ tb nv (some ⟨gn, 0, none⟩) cn (some ⟨gv, 0, none⟩) cv (some ⟨gi, 0, none⟩) ci ps U w) (hq : nv[i]? = some q) (hp : ps[i]? = some p) (hpv : p.2 = ⟨2, q.2⟩) :
    (w.cell? ⟨B7, 0, none⟩ = some (.pointer (some ⟨bh, 0, none⟩)) ∧ w.cell? ⟨B15, 0, none⟩ = some (.int .u8 5) ∧ w.cell? ⟨B15, 1, none⟩ = some (.int .i64 at_)) ∧
    (w.cell? ⟨B11, 0, none⟩ = some (.slice (some ⟨gn, 0, none⟩) nv.length cn) ∧ w.cell? ⟨gn, i, none⟩ = some (.int .i64 q.1)) ∧
    (w.cell? ⟨B12, 0, none⟩ = some (.slice (some ⟨gv, 0, none⟩) nv.length cv) ∧ w.cell? ⟨gv, i, none⟩ = some (.int .i64 q.2)) ∧
    (w.cell? ⟨gi, 2 * i * 2, none⟩ = some (.int .u8 p.1.k) ∧ w.cell? ⟨gi, 2 * i * 2 + 1, none⟩ = some (.int .i64 p.1.n) ∧ w.cell? ⟨gi, (2 * i + 1) * 2, none⟩ = some (.int .u8 2) ∧ w.cell? ⟨gi, (2 * i + 1) * 2 + 1, none⟩ = some (.int .i64 q.2)) := by
  obtain ⟨used, M, room, inn, h1, h2⟩ := h
  have hb := h2.bx.cells.1
  have hil := (List.getElem?_eq_some_iff.1 hp).1
  have hsp : ps = ps.take i ++ p :: ps.drop (i + 1) := by
    have e := (List.getElem?_eq_some_iff.1 hp).2
    rw [← e, ← List.drop_eq_getElem_cons hil, List.take_append_drop]
  have hlt : (ps.take i).length = i := by rw [List.length_take]; omega
  have hfg := flat_get (l := ps.take i) (p := p) (r := ps.drop (i + 1))
  rw [← hsp, hlt] at hfg
  have v1 := vcells_get _ _ _ hfg.1
  have v2 := vcells_get _ _ _ hfg.2
  rw [hpv] at v2
  have e : ∀ k, (⟨gi, 0, none⟩ : Addr).add k = ⟨gi, k, none⟩ := fun k => by cases k <;> simp [Addr.add]
  have c := fun k u => h2.row.cells (g := gi) rfl k u
  simp only [e] at c
  refine ⟨⟨cell_row1 h2.ws.b7, hb.1, hb.2⟩, ⟨cell_row1 h2.nvs.b11, row_cell1 h2.nvs.rn ?_⟩, ⟨cell_row1 h2.nvs.b12, row_cell1 h2.nvs.rv ?_⟩, c _ _ v1.1, c _ _ v1.2, c _ _ v2.1, c _ _ v2.2⟩
  · simp [fsts, hq]
  · simp [snds, hq]

/-- A variable of values is written. -/
theorem Lww.setBx {U g k : Nat} {n : Int} (h : Lww n₀ bh b B5 B7 B9 B11 B12 B15 at_ tb nv pn cn pv cv pi ci ps U w) (hb : Bx w g k n) (h15 : B15 ≠ g) (hr : ∀ a, pi = some a → a.block ≠ g) (x y : Value) : Lww n₀ bh b B5 B7 B9 B11 B12 B15 at_ tb nv pn cn pv cv pi ci ps U ((w.setCell ⟨g, 0, none⟩ x).setCell ⟨g, 1, none⟩ y) := by
  obtain ⟨used, M, room, inn, h1, h2⟩ := h
  have ho : ∀ q, q ≠ g → ((w.setCell ⟨g, 0, none⟩ x).setCell ⟨g, 1, none⟩ y).heap[q]? = w.heap[q]? := fun q hne => by
    rw [heap_setCell_other _ ⟨g, 1, none⟩ q _ hne, heap_setCell_other _ ⟨g, 0, none⟩ q _ hne]
  have hty : ∀ (q : Nat) (cur : Array Value) (t : TypeId), w.heap[q]? = some (.cells cur t (0, 0)) → t ≠ 26 → ((w.setCell ⟨g, 0, none⟩ x).setCell ⟨g, 1, none⟩ y).heap[q]? = w.heap[q]? := fun q cur t hq ht => ho q (fun e => by
    rw [e] at hq
    have hb' : w.heap[g]? = _ := hb
    rw [hb'] at hq
    cases hq
    exact ht rfl)
  refine ⟨used, M, room, inn, h1, ⟨h2.ws.keptV hty, h2.nvs.kept (fun q cur t hq ht => hty q cur t hq (by rcases ht with rfl | rfl <;> decide)), h2.mp, h2.bx.other h15 _ _, h2.rel, row_kept h2.row (fun q e => ho q ?_)⟩⟩
  cases hpi : pi with
  | none => rw [hpi] at e; cases e
  | some a =>
    rw [hpi] at e
    have := hr a hpi
    simp [Value.ownBlock] at e
    intro e2
    exact this (by rw [e, e2])

theorem Kp.set {w w' : World} (h : Kp n₀ w w') {g : Nat} (hg : w.heap.size ≤ g) (hn : n₀ ≤ w.heap.size) (x y : Value) : Kp n₀ w ((w'.setCell ⟨g, 0, none⟩ x).setCell ⟨g, 1, none⟩ y) := by
  refine ⟨below_set (below_set h.below (by omega) _) (by omega) _, fun k cur hk => ?_⟩
  have hlt := (Array.getElem?_eq_some_iff.1 hk).1
  rw [heap_setCell_other _ ⟨g, 1, none⟩ k _ (by simp only; omega), heap_setCell_other _ ⟨g, 0, none⟩ k _ (by simp only; omega)]
  exact h.val k cur hk

theorem Lww.fresh {U : Nat} (h : Lww n₀ bh b B5 B7 B9 B11 B12 B15 at_ tb nv pn cn pv cv pi ci ps U w) {g : Nat} (hg : w.heap.size ≤ g) : B15 ≠ g ∧ ∀ a, pi = some a → a.block ≠ g := by
  obtain ⟨used, M, room, inn, h1, h2⟩ := h
  refine ⟨fun e => by have := h2.bx.lt; omega, fun a e e2 => ?_⟩
  have := (h2.row.lt a.block (by rw [e]; rfl)).2
  omega

theorem Lww.base3 {U : Nat} (h : Lww n₀ bh b B5 B7 B9 B11 B12 B15 at_ tb nv pn cn pv cv pi ci ps U w) : w.cell? ⟨B7, 0, none⟩ = some (.pointer (some ⟨bh, 0, none⟩)) ∧ w.cell? ⟨B15, 0, none⟩ = some (.int .u8 5) ∧ w.cell? ⟨B15, 1, none⟩ = some (.int .i64 at_) := by
  obtain ⟨used, M, room, inn, h1, h2⟩ := h
  exact ⟨cell_row1 h2.ws.b7, h2.bx.cells.1.1, h2.bx.cells.1.2⟩

theorem Lww.mono {U U' : Nat} (h : Lww n₀ bh b B5 B7 B9 B11 B12 B15 at_ tb nv pn cn pv cv pi ci ps U w) (hU : U ≤ U') : Lww n₀ bh b B5 B7 B9 B11 B12 B15 at_ tb nv pn cn pv cv pi ci ps U' w := by
  obtain ⟨used, M, room, inn, h1, h2⟩ := h
  exact ⟨used, M, room, inn, by omega, h2⟩

end Go.Proofs.Ytkombdkhodjckaa
