/- ObjectIsMap: the map's calls, by names and values. -/
import Derived.Test.YtkombdkhodjckaaIsMapKey
import Derived.Test.YtkombdkhodjckaaObTexts
namespace Go.Proofs.Ytkombdkhodjckaa
set_option linter.unusedVariables false
set_option linter.unusedSimpArgs false
open Go.RowKit Go.Maps

variable {n₀ bh b lim used : Nat} {vw vb : Value} {w : World} {M : List Ob} {tb : Bool}

def Rng (x : Int) : Prop := -9223372036854775808 ≤ x ∧ x ≤ 9223372036854775807

theorem Rel.mem : ∀ {ps : List (Vl × Vl)} {nv : List (Int × Int)}, Rel M tb ps nv → ∀ p ∈ ps, ∃ q ∈ nv, KeyIs M tb p.1 q.1 ∧ p.2 = ⟨2, q.2⟩ ∧ Rng q.2
  | [], [], _, p, hp => by simp at hp
  | p :: r, q :: s, h, p', hp => by
    rcases List.mem_cons.1 hp with rfl | hp
    · exact ⟨q, by simp, h.1, h.2.1, h.2.2.1⟩
    · obtain ⟨q', hq, h'⟩ := Rel.mem h.2.2.2 p' hp
      exact ⟨q', by simp [hq], h'⟩
  | [], q :: s, h, _, _ => h.elim
  | p :: r, [], h, _, _ => h.elim

theorem Rel.split : ∀ {l : List (Int × Int)} {ps : List (Vl × Vl)} {q : Int × Int} {r : List (Int × Int)}, Rel M tb ps (l ++ q :: r) → ∃ pl p pr, ps = pl ++ p :: pr ∧ Rel M tb pl l ∧ KeyIs M tb p.1 q.1 ∧ p.2 = ⟨2, q.2⟩ ∧ Rng q.2 ∧ Rel M tb pr r
  | [], p :: ps, q, r, h => ⟨[], p, ps, rfl, trivial, h.1, h.2.1, h.2.2.1, h.2.2.2⟩
  | a :: l, p :: ps, q, r, h => by
    obtain ⟨pl, p', pr, rfl, h1, h2⟩ := Rel.split (l := l) h.2.2.2
    exact ⟨p :: pl, p', pr, rfl, ⟨h.1, h.2.1, h.2.2.1, h1⟩, h2⟩
  | [], [], q, r, h => h.elim
  | a :: l, [], q, r, h => h.elim

theorem Rel.join : ∀ {pl : List (Vl × Vl)} {l : List (Int × Int)} {p : Vl × Vl} {q : Int × Int} {pr : List (Vl × Vl)} {r : List (Int × Int)}, Rel M tb pl l → KeyIs M tb p.1 q.1 → p.2 = ⟨2, q.2⟩ → Rng q.2 → Rel M tb pr r → Rel M tb (pl ++ p :: pr) (l ++ q :: r)
  | [], [], _, _, _, _, _, h1, h2, h3, h4 => ⟨h1, h2, h3, h4⟩
  | a :: pl, c :: l, _, _, _, _, h, h1, h2, h3, h4 => ⟨h.1, h.2.1, h.2.2.1, Rel.join h.2.2.2 h1 h2 h3 h4⟩
  | [], c :: l, _, _, _, _, h, _, _, _, _ => h.elim
  | a :: pl, [], _, _, _, _, h, _, _, _, _ => h.elim

theorem flat_even : ∀ {ps : List (Vl × Vl)} {j : Nat} {v : Vl}, (flat ps)[j]? = some v → j % 2 = 0 → ∃ p ∈ ps, v = p.1
  | [], j, v, h, _ => by simp [flat] at h
  | p :: r, 0, v, h, _ => by simp [flat] at h; exact ⟨p, by simp, h.symm⟩
  | p :: r, 1, v, h, h2 => by omega
  | p :: r, j + 2, v, h, h2 => by
    simp only [flat, List.getElem?_cons_succ] at h
    obtain ⟨q, hq, e⟩ := flat_even h (by omega)
    exact ⟨q, by simp [hq], e⟩

/-- A map that bears these names and values. -/
def Mp (M : List Ob) (tb : Bool) (at_ : Nat) (nv : List (Int × Int)) (room inn : Nat) : Prop := ∃ ps, Rw M at_ 5 (flat ps) room inn ∧ Rel M tb ps nv

theorem Rw.more {M' : List Ob} {at_ kind room inn : Nat} {vs : List Vl} (h : Rw M at_ kind vs room inn) (hk : ∀ x ∈ M, x ∈ M') : Rw M' at_ kind vs room inn := by
  rcases h with ⟨o, q, hr, h⟩ | ⟨h1, h⟩
  · exact .inl ⟨o, q, ⟨hk _ hr.mem, hk _ hr.memq, hr.ws, hr.kindq, hr.size, hr.le⟩, h⟩
  · exact .inr ⟨hk _ h1, h⟩

theorem Mp.more {M' : List Ob} {at_ room inn : Nat} {nv : List (Int × Int)} (h : Mp M tb at_ nv room inn) (hk : ∀ x ∈ M, x ∈ M') : Mp M' tb at_ nv room inn := by
  obtain ⟨ps, h1, h2⟩ := h
  exact ⟨ps, h1.more hk, h2.kept (fun x hx _ => hk x hx)⟩

theorem Rw.len_le {at_ kind room inn : Nat} {vs : List Vl} (h : Rw M at_ kind vs room inn) : vs.length ≤ room := by
  rcases h with ⟨o, q, hr, h⟩ | ⟨h1, rfl, rfl, _⟩
  · exact hr.le
  · simp

/-- What keyAt says of a key that bears a name. -/
theorem key_told {at_ room inn : Nat} {ps : List (Vl × Vl)} {nv : List (Int × Int)} (r : Rw M at_ 5 (flat ps) room inn) (rel : Rel M tb ps nv) (h : Hp n₀ bh b vw vb w lim used M) (hl : (flat ps).length ≤ 131072) {key : Vl} {m : Int} (hk : KeyIs M tb key m) :
    ∃ c, KeyTold bh (flat ps) room inn c key w ∧ ∀ v m', KeyIs M tb v m' → (c v = true ↔ m' = m) := by
  have hs := h.srt.1
  cases tb with
  | false =>
    obtain ⟨rfl, h1, h2⟩ := hk
    refine ⟨fun v => decide ((2 : Nat) = v.k ∧ m = v.n), fun w' hB => r.keyAt_plain (h.below hB) hl ⟨2, m⟩ (by simp) (by simp), ?_⟩
    rintro v m' ⟨rfl, _⟩
    simp
    exact eq_comm
  | true =>
    obtain ⟨_, o, ho, e1, e2, e3⟩ := TM_key hs hk
    have hk3 := hk.1
    refine ⟨fun v => decide (TM M v = some (tx m)), fun w' hB => ?_, ?_⟩
    · have := r.keyAt_text (h.below hB) hl ho e2 (TM M) (fun j hj v hv => by
        obtain ⟨p, hp, rfl⟩ := flat_even hv hj
        obtain ⟨q, hq, hkq, _⟩ := rel.mem p hp
        obtain ⟨f0, o', f1, f2, f3, f4⟩ := TM_key hs hkq
        exact ⟨hkq.1, o', f1, f2, 2, f3, by rw [f0, f4]⟩) (tx m) e3.symm
      rw [e1] at this
      rw [hk3]
      exact this
    · intro v m' hv
      have h1 := (TM_key hs hv).1
      simp only [decide_eq_true_eq, h1, Option.some.injEq]
      exact ⟨fun e => tx_inj hv.2.1 hk.2.1 e, fun e => by rw [e]⟩

theorem first_at {c : Vl → Bool} {pl pr : List (Vl × Vl)} {p : Vl × Vl} {l : List (Int × Int)} {m : Int} (hc : ∀ v m', KeyIs M tb v m' → (c v = true ↔ m' = m)) (rl : Rel M tb pl l) (hl : ∀ q ∈ l, q.1 ≠ m) (hp : KeyIs M tb p.1 m) : FirstAt (flat (pl ++ p :: pr)) c (2 * pl.length) := by
  refine ⟨by omega, ⟨p.1, flat_get.1, (hc _ _ hp).2 rfl⟩, fun j hj h2 v hv => ?_⟩
  rw [flat_append, List.getElem?_append_left (by rw [flat_len]; exact hj)] at hv
  obtain ⟨p', hp', rfl⟩ := flat_even hv h2
  obtain ⟨q, hq, hkq, _⟩ := rl.mem p' hp'
  cases hcv : c p'.1 with
  | false => rfl
  | true => exact (hl q hq ((hc _ _ hkq).1 hcv)).elim

theorem none_at {c : Vl → Bool} {ps : List (Vl × Vl)} {l : List (Int × Int)} {m : Int} (hc : ∀ v m', KeyIs M tb v m' → (c v = true ↔ m' = m)) (rl : Rel M tb ps l) (hl : ∀ q ∈ l, q.1 ≠ m) : NoneAt (flat ps) c := by
  intro j h2 v hv
  obtain ⟨p', hp', rfl⟩ := flat_even hv h2
  obtain ⟨q, hq, hkq, _⟩ := rl.mem p' hp'
  cases hcv : c p'.1 with
  | false => rfl
  | true => exact (hl q hq ((hc _ _ hkq).1 hcv)).elim

theorem Rw.texts_kept {M' : List Ob} {at_ room inn : Nat} {vs : List Vl} (r : Rw M at_ 5 vs room inn) (hs : Srt 0 M) (hk : Kept M M' at_ inn room) : ∀ x ∈ M, x.kind = 3 → x ∈ M' := by
  intro x hx h3
  refine hk x hx (fun e => ?_) ?_
  · obtain ⟨o, ho, e1, e2⟩ := r.ob
    rw [at_inj hs hx ho (by rw [e, e1])] at h3
    omega
  · rcases r with ⟨o, q, hr, _, _, e, _⟩ | ⟨_, _, h0, _⟩
    · refine .inl (fun e' => ?_)
      rw [at_inj hs hx hr.memq (by rw [e', e])] at h3
      have := hr.kindq
      omega
    · exact .inr h0

theorem flat_set {pl pr : List (Vl × Vl)} {p : Vl × Vl} {x : Vl} : (flat (pl ++ p :: pr)).set (2 * pl.length + 1) x = flat (pl ++ (p.1, x) :: pr) := by
  rw [flat_append, flat_append, List.set_append_right _ _ (by rw [flat_len]; omega), flat_len, show 2 * pl.length + 1 - 2 * pl.length = 1 by omega]
  rfl

/-- Put. -/
theorem Mp.put {at_ room inn : Nat} {nv : List (Int × Int)} (hM : Mp M tb at_ nv room inn) (h : Hp n₀ bh b vw vb w lim used M) (hl1 : 1 ≤ lim) {key : Vl} {m x : Int} (hk : KeyIs M tb key m) (hx : Rng x) (hn : nv.length ≤ 1000) (hr : room ≤ 131072) (hf : used + 2 * max 8 (2 * room) + 1 ≤ lim) :
    Calls Try.prog 18 #[.pointer (some ⟨bh, 0, none⟩), .agg #[.int .u8 5, .int .i64 at_], .agg #[.int .u8 key.k, .int .i64 key.n], .agg #[.int .u8 2, .int .i64 x]] w fun e w' => e = .returned (.int .i64 0) ∧ ∃ vw' vb', Step b vw vb w vw' vb' w' ∧
      ∃ used' M' room' inn', Hp n₀ bh b vw' vb' w' lim used' M' ∧ Mp M' tb at_ (putNV nv m x) room' inn' ∧ ((room' = room ∧ used' = used) ∨ (room < 2 * nv.length + 2 ∧ room' = max 8 (2 * room) ∧ used' = used + 2 * room' + 1)) := by
  obtain ⟨ps, r, rel⟩ := hM
  have hlen := rel.len
  have hfl := flat_len ps
  have hle := r.len_le
  have hmx : MayHeld M 2 x := .inr (.inr (.inl rfl))
  have hfx : Fit ⟨2, x⟩ := ⟨by simp, hx⟩
  refine r.putMap h hl1 (n := nv.length) (by omega) (by omega) key ⟨2, x⟩ (fun vw' vb' w' => ∃ used' M' room' inn', Hp n₀ bh b vw' vb' w' lim used' M' ∧ Mp M' tb at_ (putNV nv m x) room' inn' ∧ ((room' = room ∧ used' = used) ∨ (room < 2 * nv.length + 2 ∧ room' = max 8 (2 * room) ∧ used' = used + 2 * room' + 1))) (fun w' hB => ?_)
  have h' := h.below hB
  obtain ⟨c, HK, hc⟩ := key_told r rel h' (by omega) hk
  rcases putNV_cases m nv with hno | ⟨l, y, rr, rfl, hno⟩
  · refine (r.putPair_no h' (by omega) hr hk.may hmx hk.fit.1 hfx HK (none_at hc rel hno) (by omega) (.inr hf)).mono ?_
    rintro e w'' ⟨he, vw', vb', used', M', room', inn', hp', hS, r', hkp, b1, b2⟩
    have hkt := r.texts_kept h'.srt.1 hkp
    refine ⟨he, vw', vb', hS, used', M', room', inn', hp', ⟨ps ++ [(key, ⟨2, x⟩)], ?_, ?_⟩, ?_⟩
    · rw [flat_append]; exact r'
    · rw [putNV_no hno]
      exact (rel.kept hkt).app (hk.kept hkt) hx
    · by_cases hroom : (flat ps).length + 2 ≤ room
      · exact .inl (b1 hroom)
      · have := b2 (by omega)
        exact .inr ⟨by omega, this.1, this.2⟩
  · obtain ⟨pl, p, pr, rfl, g1, g2, g3, g4, g5⟩ := rel.split
    have hpl := g1.len
    have hil : 2 * pl.length + 1 < (flat (pl ++ p :: pr)).length := by rw [flat_len]; simp; omega
    refine (r.putPair_yes h' (by omega) hk.may hmx hfx HK (first_at hc g1 hno g2) hil).mono ?_
    rintro e w'' ⟨he, M', hp', hS, r', hkp⟩
    have hkt := r.texts_kept h'.srt.1 hkp
    refine ⟨he, vw, vb, hS, used, M', room, inn, hp', ⟨pl ++ (p.1, ⟨2, x⟩) :: pr, ?_, ?_⟩, .inl ⟨rfl, rfl⟩⟩
    · rw [← flat_set]; exact r'
    · rw [putNV_yes hno]
      exact Rel.join (g1.kept hkt) (g2.kept hkt) rfl hx (g5.kept hkt)

/-- Get of a key that is there. -/
theorem Mp.get {at_ room inn : Nat} {l r : List (Int × Int)} {m x : Int} (hM : Mp M tb at_ (l ++ (m, x) :: r) room inn) (h : Hp n₀ bh b vw vb w lim used M) (hl1 : 1 ≤ lim) {key : Vl} (hk : KeyIs M tb key m) (hno : ∀ q ∈ l, q.1 ≠ m) (hn : (l ++ (m, x) :: r).length ≤ 1000) :
    Calls Try.prog 12 #[.pointer (some ⟨bh, 0, none⟩), .agg #[.int .u8 5, .int .i64 at_], .agg #[.int .u8 key.k, .int .i64 key.n]] w fun e w' => e = .returned (.tuple #[.agg #[.int .u8 2, .int .i64 x], .int .i64 0]) ∧ Below w.heap.size w w' := by
  obtain ⟨ps, rw0, rel⟩ := hM
  have hlen := rel.len
  have hfl := flat_len ps
  refine rw0.getMap h hl1 (n := (l ++ (m, x) :: r).length) (by omega) (by omega) key ⟨2, x⟩ (fun w' hB => ?_)
  have h' := h.below hB
  obtain ⟨c, HK, hc⟩ := key_told rw0 rel h' (by omega) hk
  obtain ⟨pl, p, pr, rfl, g1, g2, g3, g4, g5⟩ := rel.split
  have := rw0.valueOf_yes h' (by omega) HK (first_at hc g1 hno g2) flat_get.2
  rw [g3] at this
  exact this

/-- Get of a key that is no map's of these. -/
theorem Mp.get_no {at_ room inn : Nat} {nv : List (Int × Int)} (hM : Mp M tb at_ nv room inn) (h : Hp n₀ bh b vw vb w lim used M) (hl1 : 1 ≤ lim) (hn : nv.length ≤ 1000) :
    Calls Try.prog 12 #[.pointer (some ⟨bh, 0, none⟩), .agg #[.int .u8 5, .int .i64 at_], .agg #[.int .u8 1, .int .i64 1]] w fun e w' => e = .returned (.tuple #[.agg #[.int .u8 0, .int .i64 0], .int .i64 0]) ∧ Below w.heap.size w w' := by
  obtain ⟨ps, rw0, rel⟩ := hM
  have hlen := rel.len
  have hfl := flat_len ps
  refine rw0.getMap h hl1 (n := nv.length) (by omega) (by omega) ⟨1, 1⟩ ⟨0, 0⟩ (fun w' hB => ?_)
  have h' := h.below hB
  refine Rw.valueOf_no (c := fun v => decide ((1 : Nat) = v.k ∧ (1 : Int) = v.n)) (key := ⟨1, 1⟩) (fun w'' hB' => rw0.keyAt_plain (h'.below hB') (by omega) ⟨1, 1⟩ (by simp) (by simp)) ?_
  intro j h2 v hv
  obtain ⟨p, hp, rfl⟩ := flat_even hv h2
  obtain ⟨q, hq, hkq, _⟩ := rel.mem p hp
  cases tb with
  | false => obtain ⟨e, _⟩ := hkq; simp [e]
  | true => have := hkq.1; simp [this]

theorem Mp.len_in {at_ room inn : Nat} {nv : List (Int × Int)} (hM : Mp M tb at_ nv room inn) (h : Hp n₀ bh b vw vb w lim used M) (hl1 : 1 ≤ lim) (hn : nv.length ≤ 1000) :
    Calls Try.prog 10 #[.pointer (some ⟨bh, 0, none⟩), .agg #[.int .u8 5, .int .i64 at_]] w fun e w' => e = .returned (.tuple #[.int .i64 nv.length, .int .i64 0]) ∧ Below w.heap.size w w' := by
  obtain ⟨ps, rw0, rel⟩ := hM
  have hlen := rel.len
  have hfl := flat_len ps
  exact rw0.lenMap h hl1 (by omega) (by omega)

theorem Mp.items_in {at_ room inn : Nat} {nv : List (Int × Int)} (hM : Mp M tb at_ nv room inn) (h : Hp n₀ bh b vw vb w lim used M) (hl1 : 1 ≤ lim) (hn : nv.length ≤ 1000) :
    Calls Try.prog 19 #[.pointer (some ⟨bh, 0, none⟩), .agg #[.int .u8 5, .int .i64 at_]] w fun e w' => ∃ p c ps, e = .returned (.tuple #[.slice p (2 * nv.length) c, .int .i64 0]) ∧ Rel M tb ps nv ∧ w'.ownsRow w.heap.size 26 2 (.slice p (2 * nv.length) c) (2 * nv.length) (vcells (flat ps)) ∧ Below w.heap.size w w' := by
  obtain ⟨ps, rw0, rel⟩ := hM
  have hlen := rel.len
  have hfl := flat_len ps
  have he : (flat ps).length = 2 * nv.length := by omega
  refine (rw0.items5 h hl1 he (by omega)).mono ?_
  rintro e w' ⟨p, c, h1, h2, h3⟩
  rw [he] at h1 h2
  exact ⟨p, c, ps, h1, rel, h2, h3⟩

theorem same_keys (h : Hp n₀ bh b vw vb w lim used M) (hl1 : 1 ≤ lim) {x y : Vl} {m : Int} (hx : KeyIs M tb x m) (hy : KeyIs M tb y m) :
    Calls Try.prog 11 #[.pointer (some ⟨bh, 0, none⟩), .agg #[.int .u8 x.k, .int .i64 x.n], .agg #[.int .u8 y.k, .int .i64 y.n]] w fun e w' => e = .returned (.bool true) ∧ Below w.heap.size w w' := by
  cases tb with
  | false =>
    obtain ⟨rfl, _⟩ := hx
    obtain ⟨rfl, _⟩ := hy
    have := Same_plain h hl1 ⟨2, m⟩ ⟨2, m⟩ (by simp) (by simp)
    simpa using this
  | true =>
    obtain ⟨h1, h2, a, h3, h4, h5⟩ := hx
    obtain ⟨g1, g2, c, g3, g4, g5⟩ := hy
    obtain ⟨l, r, e1⟩ := List.append_of_mem h5
    obtain ⟨l', r', e2⟩ := List.append_of_mem g5
    have hsz := tx_size h2
    rw [h1, h3, g1, g3]
    rw [e1] at h
    exact same_of h hl1 (by omega) (by rw [← e1, e2]) (by omega) true (by simp)

theorem told_key (h : Hp n₀ bh b vw vb w lim used M) {v : Vl} {m : Int} (hk : KeyIs M tb v m) : TextTold (TT M tb) bh v w := by
  intro w' hB
  have h' := h.below hB
  cases tb with
  | false =>
    obtain ⟨rfl, _⟩ := hk
    exact textOf_no 2 m (by omega) w'
  | true =>
    obtain ⟨e0, o, ho, e1, e2, e3⟩ := TM_key h.srt.1 hk
    have hk3 := hk.1
    obtain ⟨l, r, e⟩ := List.append_of_mem ho
    rw [e] at h'
    have := textOf_yes h' e2
    rw [e1, e3] at this
    rw [hk3]
    show Calls _ _ _ _ fun e w'' => e = .returned (.tuple #[.string ((TM M v).getD ⟨#[]⟩), .bool (TM M v).isSome]) ∧ _
    rw [e0]
    exact this

/-- NewMap. -/
theorem Mp.new {ps : List (Vl × Vl)} {raw : List (Int × Int)} (rel : Rel M tb ps raw) (h : Hp n₀ bh b vw vb w lim used M) (hl1 : 1 ≤ lim) {p : Option Addr} (c : Nat) (hv : ValsT w p (flat ps)) (hn : raw.length ≤ 1000) (hf : used + 4 + 4 * raw.length ≤ lim) :
    Calls Try.prog 17 #[.pointer (some ⟨bh, 0, none⟩), .slice p (2 * raw.length) c] w fun e w' => e = .returned (.tuple #[.agg #[.int .u8 5, .int .i64 used], .int .i64 0]) ∧
      ∃ vw' vb', Step b vw vb w vw' vb' w' ∧ ∃ used' M' inn, Hp n₀ bh b vw' vb' w' lim used' M' ∧ Mp M' tb used (foldNV raw) (2 * raw.length) inn ∧ used' ≤ used + 4 + 4 * raw.length := by
  have hlen := rel.len
  have hfl := flat_len ps
  have hs := h.srt.1
  by_cases h0 : raw.length = 0
  · have hraw : raw = [] := List.length_eq_zero_iff.1 h0
    subst hraw
    have hps : ps = [] := List.length_eq_zero_iff.1 (by simpa using hlen)
    subst hps
    refine (NewMap_none h hl1 p c (by simp at hf; omega)).mono ?_
    rintro e w' ⟨he, vw', vb', hp, hS⟩
    exact ⟨he, vw', vb', hS, used + 3, _, 0, hp, ⟨[], .inr ⟨by simp, rfl, rfl, rfl⟩, trivial⟩, by simp⟩
  · have hfit : ∀ q ∈ ps, q.1.fits ∧ q.2.fits := fun q hq => by
      obtain ⟨u, hu, k1, k2, k3⟩ := rel.mem q hq
      exact ⟨k1.fit.1, by rw [k2]; exact ⟨by simp, k3⟩⟩
    have hmay : ∀ v ∈ flat ps, MayHeld M v.k v.n := fun v hv => by
      obtain ⟨q, hq, e⟩ := flat_mem.1 hv
      obtain ⟨u, hu, k1, k2, k3⟩ := rel.mem q hq
      rcases e with rfl | rfl
      · exact k1.may
      · rw [k2]; exact .inr (.inr (.inl rfl))
    have HT : ∀ q ∈ ps, TextTold (TT M tb) bh q.1 w := fun q hq => by
      obtain ⟨u, hu, k1, k2, k3⟩ := rel.mem q hq
      exact told_key h k1
    have hsz : ∀ q ∈ ps, ∀ s, TT M tb q.1 = some s → s.size ≤ maxLen := fun q hq s e => by
      obtain ⟨u, hu, k1, k2, k3⟩ := rel.mem q hq
      cases tb with
      | false => cases e
      | true =>
        have e' : TM M q.1 = some s := e
        rw [(TM_key hs k1).1] at e'
        cases e'
        rw [tx_size k1.2.1]
        unfold maxLen
        omega
    have H := NewMap_ok h hl1 ps c hv hfit hmay (by omega) (by omega) HT hsz (by omega)
    have hol := once_len (TT M tb) ps
    have hfo := flat_len (once (TT M tb) ps)
    rw [show (flat ps).length = 2 * raw.length by omega] at H
    refine H.mono ?_
    rintro e w' ⟨he, vw', vb', hp, hS⟩
    refine ⟨he, vw', vb', hS, _, _, used + 3, hp, ⟨once (TT M tb) ps, .inl ⟨⟨used, 5, [(flat (once (TT M tb) ps)).length, used + 4]⟩, ⟨used + 3, 8, lays (List.replicate (2 * (2 * raw.length)) 0) 0 (flat (once (TT M tb) ps))⟩, ⟨by simp, by simp, rfl, rfl, by simp [lays_len], by omega⟩, rfl, rfl, rfl, by omega, ?_⟩, ?_⟩, by omega⟩
    · refine lays_zero _ _ (by omega) (fun v hv => ?_)
      obtain ⟨q, hq, e⟩ := flat_mem.1 hv
      have := once_mem (TT M tb) Fit ps [] (fun p hp => hfit p hp) (by simp) q hq
      rcases e with rfl | rfl
      · exact this.1
      · exact this.2
    · exact (rel.once hs).kept (fun x hx _ => by simp [hx])

/-! ### Names -/
theorem nameI_idem (n : Int) : nameI tb (nameI tb n) = nameI tb n := by
  cases tb with
  | true => simp only [nameI]; omega
  | false =>
    simp only [nameI]
    have := nameI_num n
    rcases Int.le_total 0 (n.tmod 64) with h | h
    · exact Int.tmod_eq_of_lt h this.2
    · have h1 : (-(n.tmod 64)).tmod 64 = -(n.tmod 64) := Int.tmod_eq_of_lt (by omega) (by omega)
      rw [Int.neg_tmod] at h1
      omega

/-- Names are there once, and are names. -/
def Nms (tb : Bool) (nv : List (Int × Int)) : Prop := (∀ l q r, nv = l ++ q :: r → ∀ p ∈ l, p.1 ≠ q.1) ∧ ∀ q ∈ nv, nameI tb q.1 = q.1 ∧ Rng q.1 ∧ Rng q.2

end Go.Proofs.Ytkombdkhodjckaa
