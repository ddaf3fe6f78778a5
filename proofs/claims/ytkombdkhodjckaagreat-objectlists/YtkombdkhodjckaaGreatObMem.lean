/- What values lead to; plain lists alone. -/
import Derived.Test.YtkombdkhodjckaaGreatModel
import Derived.Test.YtkombdkhodjckaaGreatMore
import Derived.Laws.ResultCell
namespace Go.Proofs.YtkombdkhodjckaaGreat
set_option linter.unusedVariables false
set_option linter.unusedSimpArgs false

/-- An object of that kind begins at that place. -/
abbrev Is (M : List Ob) (k : Nat) (n : Int) : Prop := ∃ o ∈ M, (o.at_ : Int) = n ∧ o.kind = k

/-- A value of that kind and number leads to an object. -/
abbrev Leads (M : List Ob) (k : Nat) (n : Int) : Prop := 3 ≤ k ∧ k ≤ 7 ∧ Is M k n

/-- A word of an object that leads to another object. -/
structure Lk where
  word : Nat
  to : Nat
  more : Nat

/-- The links of values held, two words each. -/
def prs (M : List Ob) : Nat → List Nat → List Lk
  | i, k :: n :: r => (if Leads M k n then [⟨i + 1, n, 0⟩] else []) ++ prs M (i + 2) r
  | _, _ => []

def itemsL (M : List Ob) (ws : List Nat) : List Lk :=
  match ws[1]? with
  | some x => if x ≠ 0 ∧ Is M 8 ((x - 1 : Nat) : Int) then [⟨1, x - 1, 1⟩] else []
  | none => []

/-- The links of an object. -/
def links (M : List Ob) (o : Ob) : List Lk :=
  if o.kind = 4 ∨ o.kind = 5 then itemsL M o.ws
  else if o.kind = 8 then prs M 0 o.ws
  else if o.kind = 6 then prs M 1 (o.ws.drop 1)
  else if o.kind = 7 then prs M 0 (o.ws.take 2)
  else []

theorem prs_mem {M : List Ob} : ∀ {ws : List Nat} {i : Nat} {x : Lk}, x ∈ prs M i ws → ∃ o ∈ M, o.at_ = x.to
  | [], _, _, h => by simp [prs] at h
  | [_], _, _, h => by simp [prs] at h
  | k :: n :: r, i, x, h => by
    simp only [prs, List.mem_append] at h
    rcases h with h | h
    · split at h
      · rename_i hl
        simp at h; subst h
        obtain ⟨_, _, o, ho, e, _⟩ := hl
        exact ⟨o, ho, by simp only at e ⊢; omega⟩
      · simp at h
    · exact prs_mem h

theorem links_mem {M : List Ob} {o : Ob} {x : Lk} (h : x ∈ links M o) : ∃ q ∈ M, q.at_ = x.to := by
  unfold links at h
  split at h
  · unfold itemsL at h
    split at h
    · split at h
      · rename_i hl
        simp at h; subst h
        obtain ⟨_, o, ho, e, _⟩ := hl
        exact ⟨o, ho, by simp only at e ⊢; omega⟩
      · simp at h
    · simp at h
  · split at h
    · exact prs_mem h
    · split at h
      · exact prs_mem h
      · split at h
        · exact prs_mem h
        · simp at h

/-- A value: its kind and its number. -/
structure Vl where
  k : Nat
  n : Int

/-- A way from roots to a place, its steps told backwards. -/
def Chn (M : List Ob) (roots : List Vl) : List Nat → Nat → Prop
  | [], p => ∃ v ∈ roots, Leads M v.k v.n ∧ v.n = p
  | q :: r, p => Chn M roots r q ∧ ∃ o ∈ M, o.at_ = q ∧ ∃ x ∈ links M o, x.to = p

/-- The objects that values lead to, by their places. -/
def Rch (M : List Ob) (roots : List Vl) (p : Nat) : Prop := ∃ ps, Chn M roots ps p

theorem Rch.root {M : List Ob} {roots : List Vl} {v : Vl} {p : Nat} (hv : v ∈ roots) (hl : Leads M v.k v.n) (e : v.n = p) : Rch M roots p := ⟨[], v, hv, hl, e⟩

theorem Rch.step {M : List Ob} {roots : List Vl} {o : Ob} {x : Lk} (ho : o ∈ M) (hr : Rch M roots o.at_) (hx : x ∈ links M o) : Rch M roots x.to := by
  obtain ⟨ps, hps⟩ := hr
  exact ⟨o.at_ :: ps, hps, o, ho, rfl, x, hx, rfl⟩

theorem Rch.ind {M : List Ob} {roots : List Vl} {P : Nat → Prop} (h1 : ∀ (v : Vl) (p : Nat), v ∈ roots → Leads M v.k v.n → v.n = p → P p) (h2 : ∀ (o : Ob) (x : Lk), o ∈ M → P o.at_ → x ∈ links M o → P x.to) {p : Nat} (h : Rch M roots p) : P p := by
  obtain ⟨ps, hps⟩ := h
  induction ps generalizing p with
  | nil =>
    obtain ⟨v, hv, hl, e⟩ := hps
    exact h1 v p hv hl e
  | cons q r ih =>
    obtain ⟨hq, o, ho, rfl, x, hx, rfl⟩ := hps
    exact h2 o x ho (ih hq) hx

theorem Rch.mem {M : List Ob} {roots : List Vl} {p : Nat} (h : Rch M roots p) : ∃ o ∈ M, o.at_ = p := by
  refine Rch.ind (P := fun p => ∃ o ∈ M, o.at_ = p) ?_ ?_ h
  · intro v p _ hl e
    obtain ⟨_, _, o, ho, e', _⟩ := hl
    exact ⟨o, ho, by omega⟩
  · intro o x _ _ hx
    exact links_mem hx

/-- Roots may be. -/
def May (M : List Ob) (roots : List Vl) : Prop := ∀ v ∈ roots, v.k ≤ 7 ∧ (3 ≤ v.k → Leads M v.k v.n)

/-- How many are still to be come to. -/
def unseen (S : List Bool) : Nat := S.countP (fun x => !x)

theorem unseen_set {S : List Bool} {p : Nat} (h : S[p]? = some false) : unseen (S.set p true) + 1 = unseen S := by
  induction S generalizing p with
  | nil => simp at h
  | cons x S ih =>
    cases p with
    | zero => simp at h; subst h; simp [unseen]
    | succ p =>
      have := ih (p := p) (by simpa using h)
      simp only [unseen, List.set_cons_succ, List.countP_cons] at this ⊢
      omega

theorem unseen_le (S : List Bool) : unseen S ≤ S.length := List.countP_le_length

/-- What has been come to, and what is still to be followed. -/
structure Mk where
  S : List Bool
  T : List Nat

def Mk.add (m : Mk) (p : Nat) : Mk := if m.S[p]? = some true then m else ⟨m.S.set p true, m.T ++ [p]⟩

def Mk.adds (m : Mk) (xs : List Lk) : Mk := xs.foldl (fun m x => m.add x.to) m

/-- The measure. -/
def Mk.left (m : Mk) : Nat := 2 * unseen m.S + m.T.length

def Mk.room (m : Mk) : Nat := unseen m.S + m.T.length

theorem Mk.adds_snoc (m : Mk) (xs : List Lk) (x : Lk) : m.adds (xs ++ [x]) = (m.adds xs).add x.to := by simp [Mk.adds]

structure Mk.Le (m m' : Mk) : Prop where
  len : m'.S.length = m.S.length
  left : m'.left ≤ m.left
  room : m'.room ≤ m.room
  seen : ∀ p : Nat, m.S[p]? = some true → m'.S[p]? = some true
  todo : ∀ p ∈ m.T, p ∈ m'.T
  new : ∀ p : Nat, m'.S[p]? = some true → m.S[p]? = some true ∨ p ∈ m'.T

theorem Mk.Le.refl (m : Mk) : m.Le m := ⟨rfl, Nat.le_refl _, Nat.le_refl _, fun _ h => h, fun _ h => h, fun _ h => .inl h⟩

theorem Mk.Le.trans {a b c : Mk} (h : a.Le b) (g : b.Le c) : a.Le c :=
  ⟨g.len.trans h.len, Nat.le_trans g.left h.left, Nat.le_trans g.room h.room, fun p e => g.seen p (h.seen p e), fun p e => g.todo p (h.todo p e), fun p e => by
    rcases g.new p e with e | e
    · rcases h.new p e with e | e
      · exact .inl e
      · exact .inr (g.todo p e)
    · exact .inr e⟩

theorem Mk.add_le (m : Mk) (p : Nat) (hp : p < m.S.length) : m.Le (m.add p) ∧ (m.add p).S[p]? = some true := by
  unfold Mk.add
  split
  · exact ⟨Mk.Le.refl m, by assumption⟩
  · rename_i h
    have hf : m.S[p]? = some false := by
      rw [List.getElem?_eq_getElem hp] at h ⊢
      cases hx : m.S[p] with
      | true => rw [hx] at h; exact (h rfl).elim
      | false => rfl
    have := unseen_set hf
    refine ⟨⟨by simp, by simp [Mk.left]; omega, by simp [Mk.room]; omega, ?_, ?_, ?_⟩, by simp [hp]⟩
    · intro q hq
      by_cases e : p = q
      · subst e; simp [hp]
      · simpa [List.getElem?_set, e] using hq
    · intro q hq; simp [hq]
    · intro q hq
      by_cases e : p = q
      · subst e; right; simp
      · left; simpa [List.getElem?_set, e] using hq

theorem Mk.adds_le : ∀ (xs : List Lk) (m : Mk), (∀ x ∈ xs, x.to < m.S.length) → m.Le (m.adds xs) ∧ ∀ x ∈ xs, (m.adds xs).S[x.to]? = some true
  | [], m, _ => ⟨Mk.Le.refl m, by simp⟩
  | x :: xs, m, h => by
    obtain ⟨h1, h2⟩ := m.add_le x.to (h x (by simp))
    obtain ⟨h3, h4⟩ := Mk.adds_le xs (m.add x.to) (fun y hy => by rw [h1.len]; exact h y (by simp [hy]))
    refine ⟨h1.trans h3, ?_⟩
    intro y hy
    rcases List.mem_cons.1 hy with rfl | hy
    · exact h3.seen _ h2
    · exact h4 y hy

theorem Mk.add_mem {m : Mk} {p q : Nat} (h : (m.add p).S[q]? = some true) : m.S[q]? = some true ∨ q = p := by
  unfold Mk.add at h
  split at h
  · exact .inl h
  · by_cases e : p = q
    · exact .inr e.symm
    · left; simpa [List.getElem?_set, e] using h

theorem Mk.adds_mem : ∀ {xs : List Lk} {m : Mk} {q : Nat}, (m.adds xs).S[q]? = some true → m.S[q]? = some true ∨ ∃ x ∈ xs, x.to = q
  | [], m, q, h => .inl h
  | x :: xs, m, q, h => by
    rcases Mk.adds_mem (xs := xs) (m := m.add x.to) h with h | ⟨y, hy, e⟩
    · rcases Mk.add_mem h with h | h
      · exact .inl h
      · exact .inr ⟨x, by simp, h.symm⟩
    · exact .inr ⟨y, by simp [hy], e⟩

theorem Mk.add_todo {m : Mk} {p q : Nat} (hp : p < m.S.length) (h : q ∈ (m.add p).T) : q ∈ m.T ∨ (m.add p).S[q]? = some true := by
  have h2 := (m.add_le p hp).2
  unfold Mk.add at h h2 ⊢
  split at h
  · exact .inl h
  · simp at h
    rcases h with h | h
    · exact .inl h
    · subst h; rename_i hh; rw [if_neg hh] at h2 ⊢; exact .inr h2

theorem Mk.adds_todo : ∀ {xs : List Lk} {m : Mk} {q : Nat}, (∀ x ∈ xs, x.to < m.S.length) → q ∈ (m.adds xs).T → q ∈ m.T ∨ (m.adds xs).S[q]? = some true
  | [], m, q, _, h => .inl h
  | x :: xs, m, q, hx, h => by
    have h1 := (m.add_le x.to (hx x (by simp))).1
    have hx' : ∀ y ∈ xs, y.to < (m.add x.to).S.length := fun y hy => by rw [h1.len]; exact hx y (by simp [hy])
    rcases Mk.adds_todo (xs := xs) (m := m.add x.to) hx' h with h | h
    · rcases Mk.add_todo (hx x (by simp)) h with h | h
      · exact .inl h
      · exact .inr ((Mk.adds_le xs _ hx').1.seen _ h)
    · exact .inr h

/-- What stands while objects are followed. -/
structure Walk (M : List Ob) (roots : List Vl) (used : Nat) (m : Mk) : Prop where
  len : m.S.length = used
  fit : m.room ≤ used
  sound : ∀ p : Nat, m.S[p]? = some true → Rch M roots p
  all : ∀ v ∈ roots, Leads M v.k v.n → m.S[v.n.toNat]? = some true
  todo : ∀ p ∈ m.T, m.S[p]? = some true
  done : ∀ o ∈ M, m.S[o.at_]? = some true → o.at_ ∈ m.T ∨ ∀ x ∈ links M o, m.S[x.to]? = some true

theorem Walk.end {M : List Ob} {roots : List Vl} {used : Nat} {m : Mk} (h : Walk M roots used m) (hT : m.T = []) (p : Nat) : m.S[p]? = some true ↔ Rch M roots p := by
  refine ⟨h.sound p, fun hr => ?_⟩
  refine Rch.ind (P := fun p => m.S[p]? = some true) ?_ ?_ hr
  · intro v p hv hl e
    have := h.all _ hv hl; rw [e] at this; simpa using this
  · intro o x ho ih hx
    rcases h.done _ ho ih with h' | h'
    · rw [hT] at h'; simp at h'
    · exact h' _ hx

/-- One object is followed. -/
theorem Walk.round {M : List Ob} {roots : List Vl} {used : Nat} {S : List Bool} {T : List Nat} {o : Ob} (h : Walk M roots used ⟨S, T ++ [o.at_]⟩) (ho : o ∈ M) (hu : ∀ q ∈ M, q.at_ < used) (hd : ∀ q ∈ M, q.at_ = o.at_ → q = o) :
    Walk M roots used ((⟨S, T⟩ : Mk).adds (links M o)) ∧ ((⟨S, T⟩ : Mk).adds (links M o)).left < (⟨S, T ++ [o.at_]⟩ : Mk).left := by
  have hlen := h.len
  have hfit := h.fit
  have hin : ∀ x ∈ links M o, x.to < (⟨S, T⟩ : Mk).S.length := by
    intro x hx
    obtain ⟨q, hq, e⟩ := links_mem hx
    have := hu q hq
    simp at hlen ⊢; omega
  obtain ⟨h1, h2⟩ := Mk.adds_le (links M o) ⟨S, T⟩ hin
  have hr : Rch M roots o.at_ := h.sound _ (h.todo _ (by simp))
  have hl := h1.left
  have hm := h1.room
  refine ⟨⟨?_, ?_, ?_, ?_, ?_, ?_⟩, ?_⟩
  · rw [h1.len]; exact hlen
  · simp [Mk.room] at hm hfit ⊢; omega
  · intro p hp
    rcases Mk.adds_mem hp with hp | ⟨x, hx, rfl⟩
    · exact h.sound p hp
    · exact Rch.step ho hr hx
  · intro v hv hl
    exact h1.seen _ (h.all v hv hl)
  · intro p hp
    rcases Mk.adds_todo hin hp with hp | hp
    · exact h1.seen _ (h.todo p (by simp [hp]))
    · exact hp
  · intro q hq hs
    rcases h1.new _ hs with hs | hs
    · rcases h.done q hq hs with e | e
      · rcases List.mem_append.1 e with e | e
        · exact .inl (h1.todo _ e)
        · simp at e
          obtain rfl := hd q hq e
          exact .inr h2
      · exact .inr (fun x hx => h1.seen _ (e x hx))
    · exact .inl hs
  · simp [Mk.left] at hl ⊢; omega

/-- The roots come first. -/
def Mk.root (M : List Ob) (m : Mk) (v : Vl) : Mk := if Leads M v.k v.n then m.add v.n.toNat else m

def Mk.roots (M : List Ob) (m : Mk) (vs : List Vl) : Mk := vs.foldl (Mk.root M) m

theorem Mk.roots_snoc (M : List Ob) (m : Mk) (vs : List Vl) (v : Vl) : m.roots M (vs ++ [v]) = (m.roots M vs).root M v := by simp [Mk.roots]

structure WalkR (M : List Ob) (roots : List Vl) (used : Nat) (pre : List Vl) (m : Mk) : Prop where
  len : m.S.length = used
  fit : m.room ≤ used
  sound : ∀ p : Nat, m.S[p]? = some true → Rch M roots p
  all : ∀ v ∈ pre, Leads M v.k v.n → m.S[v.n.toNat]? = some true
  todo : ∀ p : Nat, m.S[p]? = some true ↔ p ∈ m.T

theorem WalkR.start (M : List Ob) (roots : List Vl) (used : Nat) : WalkR M roots used [] ⟨List.replicate used false, []⟩ := by
  refine ⟨by simp, by have := unseen_le (List.replicate used false); simp [Mk.room] at this ⊢; exact this, ?_, by simp, ?_⟩
  · intro p hp; simp [List.getElem?_replicate] at hp
  · intro p; simp [List.getElem?_replicate]

theorem WalkR.next {M : List Ob} {roots pre : List Vl} {used : Nat} {m : Mk} {v : Vl} (h : WalkR M roots used pre m) (hv : v ∈ roots) (hu : ∀ q ∈ M, q.at_ < used) : WalkR M roots used (pre ++ [v]) (m.root M v) := by
  unfold Mk.root
  split
  · rename_i hl
    obtain ⟨o, ho, e, _⟩ := hl.2.2
    have hlt : v.n.toNat < m.S.length := by have := hu o ho; have := h.len; omega
    obtain ⟨h1, h2⟩ := m.add_le v.n.toNat hlt
    have hm := h1.room
    refine ⟨h1.len.trans h.len, Nat.le_trans hm h.fit, ?_, ?_, ?_⟩
    · intro p hp
      rcases Mk.add_mem hp with hp | hp
      · exact h.sound p hp
      · exact Rch.root hv hl (by omega)
    · intro u hu hlu
      rcases List.mem_append.1 hu with hu | hu
      · exact h1.seen _ (h.all u hu hlu)
      · simp at hu; subst hu; exact h2
    · intro p
      refine ⟨fun hp => ?_, fun hp => ?_⟩
      · rcases h1.new p hp with hp | hp
        · exact h1.todo _ ((h.todo p).1 hp)
        · exact hp
      · rcases Mk.add_todo hlt hp with hp | hp
        · exact h1.seen _ ((h.todo p).2 hp)
        · exact hp
  · rename_i hl
    refine ⟨h.len, h.fit, h.sound, ?_, h.todo⟩
    intro u hu hlu
    rcases List.mem_append.1 hu with hu | hu
    · exact h.all u hu hlu
    · simp at hu; subst hu; exact (hl hlu).elim

theorem WalkR.walk {M : List Ob} {roots : List Vl} {used : Nat} {m : Mk} (h : WalkR M roots used roots m) : Walk M roots used m :=
  ⟨h.len, h.fit, h.sound, h.all, fun p hp => (h.todo p).2 hp, fun o _ hs => .inl ((h.todo _).1 hs)⟩

end Go.Proofs.YtkombdkhodjckaaGreat

namespace Go.Proofs.YtkombdkhodjckaaGreat
set_option linter.unusedVariables false
set_option linter.unusedSimpArgs false
open Go.RowKit

variable {n₀ bh b lim used : Nat} {vw vb : Value} {w : World} {M : List Ob}

def vv (k : Nat) (n : Int) : Value := .agg #[.int .u8 k, .int .i64 n]

theorem Srt.uniq {M : List Ob} {lo : Nat} (h : Srt lo M) {o q : Ob} (ho : o ∈ M) (hq : q ∈ M) (e : o.at_ = q.at_) : o = q := by
  induction M generalizing lo with
  | nil => cases ho
  | cons x r ih =>
    obtain ⟨h1, h2⟩ := h
    have hx : ∀ y ∈ r, x.at_ < y.at_ := fun y hy => by have := Srt.lo h2 y hy; unfold Ob.end_ at this; omega
    rcases List.mem_cons.1 ho with e1 | ho <;> rcases List.mem_cons.1 hq with e2 | hq
    · rw [e1, e2]
    · have := hx q hq; rw [← e1] at this; omega
    · have := hx o ho; rw [← e2] at this; omega
    · exact ih h2 ho hq

theorem below1 (w : World) (o : Obj) : Below w.heap.size w (w.alloc o) := (Below.refl _ _).alloc (Nat.le_refl _) _

theorem at_cases (M : List Ob) (i : Int) : (∀ o ∈ M, (o.at_ : Int) ≠ i) ∨ ∃ l o r, M = l ++ o :: r ∧ (o.at_ : Int) = i := by
  by_cases h : ∀ o ∈ M, (o.at_ : Int) ≠ i
  · exact .inl h
  · simp only [Classical.not_forall] at h
    obtain ⟨o, ho, e⟩ := h
    obtain ⟨l, r, rfl⟩ := List.append_of_mem ho
    exact .inr ⟨l, o, r, rfl, by simpa using e⟩

set_option maxHeartbeats 400000 in
theorem tells_in (k : Nat) (w : World) : Calls Tryz.prog 71 #[.int .u8 k] w fun e w' => e = .returned (.bool (decide (3 ≤ k ∧ k ≤ 7))) ∧ w' = w := by
  by_cases h1 : (3 : Int) ≤ (k : Int)
  · by_cases h2 : (k : Int) ≤ 7
    · have e : decide (3 ≤ k ∧ k ≤ 7) = true := by simp; omega
      rw [e]
      clear e
      go_enter Tryz.func71, Tryz.ntmps71
      go_wp2
      go_ret
      exact ⟨rfl, rfl⟩
    · have e : decide (3 ≤ k ∧ k ≤ 7) = false := by simp; omega
      rw [e]
      clear e
      go_enter Tryz.func71, Tryz.ntmps71
      go_wp2
      go_ret
      exact ⟨rfl, rfl⟩
  · have e : decide (3 ≤ k ∧ k ≤ 7) = false := by simp; omega
    rw [e]
    clear e
    go_enter Tryz.func71, Tryz.ntmps71
    go_wp2
    go_ret
    exact ⟨rfl, rfl⟩

theorem leads_iff {M : List Ob} (hs : Srt 0 M) {o : Ob} (ho : o ∈ M) (k : Nat) : Leads M k o.at_ ↔ 3 ≤ k ∧ k ≤ 7 ∧ o.kind = k := by
  constructor
  · rintro ⟨h1, h2, q, hq, e, e2⟩
    obtain rfl := hs.uniq hq ho (by omega)
    exact ⟨h1, h2, e2⟩
  · rintro ⟨h1, h2, e⟩
    exact ⟨h1, h2, o, ho, rfl, e⟩

set_option maxRecDepth 20000 in
set_option maxHeartbeats 1000000 in
theorem leads_in (h : Hp n₀ bh b vw vb w lim used M) (k : Nat) (n : Int) :
    Calls Tryz.prog 72 #[.pointer (some ⟨bh, 0, none⟩), .agg #[.int .u8 k, .int .i64 n]] w fun e w' => e = .returned (.bool (decide (Leads M k n))) ∧ Below w.heap.size w w' := by
  have ht := fun w => tells_in k w
  by_cases hk : 3 ≤ k ∧ k ≤ 7
  · have e0 : decide (3 ≤ k ∧ k ≤ 7) = true := by simpa using hk
    rw [e0] at ht
    rcases at_cases M n with hn | ⟨l, o, r, rfl, rfl⟩
    · have e1 : decide (Leads M k n) = false := by
        simp only [decide_eq_false_iff_not]
        rintro ⟨_, _, o, ho, e, _⟩
        exact hn o ho e
      rw [e1]
      have hq := fun w' (hB : Below w.heap.size w w') => kindM_none (h.below hB) n hn
      clear e0 e1 hn hk
      go_enter Tryz.func72, Tryz.ntmps72
      go_wp2_with (first
        | (go_at_call 71; refine (ht _).mono ?_; rintro e w' ⟨rfl, rfl⟩)
        | (go_at_call 101; refine (hq _ (below1 _ _)).mono ?_; rintro e w' ⟨rfl, rfl⟩))
      go_ret
      exact ⟨rfl, below1 _ _⟩
    · have hm : o ∈ l ++ o :: r := by simp
      have hq := fun w' (hB : Below w.heap.size w w') => kindM (h.below hB)
      by_cases hok : o.kind = k
      · have e1 : decide (Leads (l ++ o :: r) k o.at_) = true := by
          simp only [decide_eq_true_eq]
          exact (leads_iff h.srt.1 hm k).2 ⟨hk.1, hk.2, hok⟩
        rw [e1]
        subst hok
        clear e0 e1 hk
        go_enter Tryz.func72, Tryz.ntmps72
        go_wp2_with (first
          | (go_at_call 71; refine (ht _).mono ?_; rintro e w' ⟨rfl, rfl⟩)
          | (go_at_call 101; refine (hq _ (below1 _ _)).mono ?_; rintro e w' ⟨rfl, rfl⟩))
        go_ret
        exact ⟨rfl, below1 _ _⟩
      · have e1 : decide (Leads (l ++ o :: r) k o.at_) = false := by
          simp only [decide_eq_false_iff_not]
          intro hh
          exact hok ((leads_iff h.srt.1 hm k).1 hh).2.2
        rw [e1]
        have hne : ((o.kind : Int) == (k : Int)) = false := by simp; omega
        clear e0 e1 hk
        go_enter Tryz.func72, Tryz.ntmps72
        go_wp2_with (first
          | (go_at_call 71; refine (ht _).mono ?_; rintro e w' ⟨rfl, rfl⟩)
          | (go_at_call 101; refine (hq _ (below1 _ _)).mono ?_; rintro e w' ⟨rfl, rfl⟩))
        go_ret
        exact ⟨rfl, below1 _ _⟩
  · have e0 : decide (3 ≤ k ∧ k ≤ 7) = false := by simp; omega
    rw [e0] at ht
    have e1 : decide (Leads M k n) = false := by
      simp only [decide_eq_false_iff_not]
      rintro ⟨h1, h2, _⟩
      exact hk ⟨h1, h2⟩
    rw [e1]
    clear e0 e1 hk
    go_enter Tryz.func72, Tryz.ntmps72
    go_wp2_with (first
      | (go_at_call 71; refine (ht _).mono ?_; rintro e w' ⟨rfl, rfl⟩))
    go_ret
    exact ⟨rfl, below1 _ _⟩

end Go.Proofs.YtkombdkhodjckaaGreat

namespace Go.Proofs.YtkombdkhodjckaaGreat
set_option linter.unusedVariables false
set_option linter.unusedSimpArgs false
open Go.RowKit

variable {n₀ bh b lim used : Nat} {vw vb : Value} {w : World} {M : List Ob}

/-- A memory over the heap at a block. -/
def mem (bh : Nat) : Value := .agg #[.pointer (some ⟨bh, 0, none⟩)]

theorem results_row_tmp {P : Program} {fn : Func} {p u : Tmp} {ty : TypeId} (h : fn.results = #[.cell p ty, .tmp u]) (tmps : Array Value) (w : World) (g : Nat) (t : TypeId) (cs : Array Value) (fr : Nat × Nat) (d : TypeDesc)
    (hp : tmps.getD p undef = .pointer (some ⟨g, 0, none⟩)) (hg : w.heap[g]? = some (.cells cs t fr))
    (hu : P.underlying ty = some d) (hd : (match d with | .struct _ | .array _ _ => true | _ => false) = true) (hi : (P.info? ty).map (·.size) = some cs.size) :
    (results fn tmps).run P w = .ok (.tuple #[.agg cs, tmps.getD u undef]) w := by
  rw [results_cell_tmp h]
  rw [hp]
  simp [asAddr, run_loadVar_row w g t ty cs fr d hg hu hd hi, Result.andThen]

set_option maxHeartbeats 400000 in
theorem othere_in (h : Hp n₀ bh b vw vb w lim used M) (hl : 1 ≤ lim) : Calls Tryz.prog 19 #[mem bh] w fun e w' => e = .returned (.bool true) ∧ Below w.heap.size w w' := by
  have H1 := wordsM (h.below (below1 w (.cells #[.pointer (some ⟨bh, 0, none⟩)] 54)))
  have hl' : (0 : Int) < (lim : Int) := by omega
  unfold mem
  go_enter Tryz.func19, Tryz.ntmps19
  go_wp2_with (first
    | (go_at_call 49; refine H1.mono ?_; clear H1; rintro e w' ⟨rfl, hw'⟩; obtain rfl := hw'.symm))
  go_ret
  have hd : decide (0 < lim) = true := by simp; omega
  exact ⟨by rw [← hd]; rfl, below1 _ _⟩

set_option maxHeartbeats 400000 in
theorem oword_in {l r : List Ob} {o : Ob} (h : Hp n₀ bh b vw vb w lim used (l ++ o :: r)) (i : Nat) : Calls Tryz.prog 89 #[mem bh, .int .i64 o.at_, .int .i64 i] w fun e w' => e = .returned (.int .u64 (o.ws.getD i 0 : Nat)) ∧ Below w.heap.size w w' := by
  have hb := h.below (below1 w (.cells #[.pointer (some ⟨bh, 0, none⟩)] 54))
  cases hi : o.ws[i]? with
  | none =>
    have e : o.ws.getD i 0 = 0 := by simp [List.getD, hi]
    rw [e]
    have H1 := readM_out hb i (.inr (by rw [List.getElem?_eq_none_iff] at hi; omega))
    unfold mem
    go_enter Tryz.func89, Tryz.ntmps89
    go_wp2_with (first
      | (go_at_call 115; refine H1.mono ?_; clear H1; rintro e w' ⟨rfl, hw'⟩; obtain rfl := hw'.symm))
    go_ret
    exact ⟨rfl, below1 _ _⟩
  | some y =>
    have e : o.ws.getD i 0 = y := by simp [List.getD, hi]
    rw [e]
    have H1 := readM hb i y hi
    unfold mem
    go_enter Tryz.func89, Tryz.ntmps89
    go_wp2_with (first
      | (go_at_call 115; refine H1.mono ?_; clear H1; rintro e w' ⟨rfl, hw'⟩; obtain rfl := hw'.symm))
    go_ret
    exact ⟨rfl, below1 _ _⟩

set_option maxHeartbeats 400000 in
theorem otells_in (k : Nat) (w : World) : Calls Tryz.prog 70 #[.int .u8 k] w fun e w' => e = .returned (.bool (decide (3 ≤ k ∧ k ≤ 7))) ∧ w' = w := by
  by_cases h1 : (3 : Int) ≤ (k : Int)
  · by_cases h2 : (k : Int) ≤ 7
    · have e : decide (3 ≤ k ∧ k ≤ 7) = true := by simp; omega
      rw [e]
      clear e
      go_enter Tryz.func70, Tryz.ntmps70
      go_wp2
      go_ret
      exact ⟨rfl, rfl⟩
    · have e : decide (3 ≤ k ∧ k ≤ 7) = false := by simp; omega
      rw [e]
      clear e
      go_enter Tryz.func70, Tryz.ntmps70
      go_wp2
      go_ret
      exact ⟨rfl, rfl⟩
  · have e : decide (3 ≤ k ∧ k ≤ 7) = false := by simp; omega
    rw [e]
    clear e
    go_enter Tryz.func70, Tryz.ntmps70
    go_wp2
    go_ret
    exact ⟨rfl, rfl⟩

theorem below2' (w : World) (o1 o2 : Obj) : Below w.heap.size w ((w.alloc o1).alloc o2) := (below1 w o1).alloc (by simp) _

set_option maxRecDepth 20000 in
set_option maxHeartbeats 1000000 in
theorem oleads_in (h : Hp n₀ bh b vw vb w lim used M) (k : Nat) (n : Int) :
    Calls Tryz.prog 64 #[mem bh, .agg #[.int .u8 k, .int .i64 n]] w fun e w' => e = .returned (.bool (decide (Leads M k n))) ∧ Below w.heap.size w w' := by
  have ht := fun w => otells_in k w
  unfold mem
  by_cases hk : 3 ≤ k ∧ k ≤ 7
  · have e0 : decide (3 ≤ k ∧ k ≤ 7) = true := by simpa using hk
    rw [e0] at ht
    rcases at_cases M n with hn | ⟨l, o, r, rfl, rfl⟩
    · have e1 : decide (Leads M k n) = false := by
        simp only [decide_eq_false_iff_not]
        rintro ⟨_, _, o, ho, e, _⟩
        exact hn o ho e
      rw [e1]
      have hq := fun w' (hB : Below w.heap.size w w') => kindM_none (h.below hB) n hn
      clear e0 e1 hn hk
      go_enter Tryz.func64, Tryz.ntmps64
      go_wp2_with (first
        | (go_at_call 70; refine (ht _).mono ?_; rintro e w' ⟨rfl, hw'⟩; obtain rfl := hw'.symm)
        | (go_at_call 101; refine (hq _ (below2' _ _ _)).mono ?_; rintro e w' ⟨rfl, hw'⟩; obtain rfl := hw'.symm))
      go_ret
      exact ⟨rfl, below2' _ _ _⟩
    · have hm : o ∈ l ++ o :: r := by simp
      have hq := fun w' (hB : Below w.heap.size w w') => kindM (h.below hB)
      by_cases hok : o.kind = k
      · have e1 : decide (Leads (l ++ o :: r) k o.at_) = true := by
          simp only [decide_eq_true_eq]
          exact (leads_iff h.srt.1 hm k).2 ⟨hk.1, hk.2, hok⟩
        rw [e1]
        subst hok
        clear e0 e1 hk
        go_enter Tryz.func64, Tryz.ntmps64
        go_wp2_with (first
          | (go_at_call 70; refine (ht _).mono ?_; rintro e w' ⟨rfl, hw'⟩; obtain rfl := hw'.symm)
          | (go_at_call 101; refine (hq _ (below2' _ _ _)).mono ?_; rintro e w' ⟨rfl, hw'⟩; obtain rfl := hw'.symm))
        go_ret
        exact ⟨rfl, below2' _ _ _⟩
      · have e1 : decide (Leads (l ++ o :: r) k o.at_) = false := by
          simp only [decide_eq_false_iff_not]
          intro hh
          exact hok ((leads_iff h.srt.1 hm k).1 hh).2.2
        rw [e1]
        have hne : ((o.kind : Int) == (k : Int)) = false := by simp; omega
        clear e0 e1 hk
        go_enter Tryz.func64, Tryz.ntmps64
        go_wp2_with (first
          | (go_at_call 70; refine (ht _).mono ?_; rintro e w' ⟨rfl, hw'⟩; obtain rfl := hw'.symm)
          | (go_at_call 101; refine (hq _ (below2' _ _ _)).mono ?_; rintro e w' ⟨rfl, hw'⟩; obtain rfl := hw'.symm))
        go_ret
        exact ⟨rfl, below2' _ _ _⟩
  · have e0 : decide (3 ≤ k ∧ k ≤ 7) = false := by simp; omega
    rw [e0] at ht
    have e1 : decide (Leads M k n) = false := by
      simp only [decide_eq_false_iff_not]
      rintro ⟨h1, h2, _⟩
      exact hk ⟨h1, h2⟩
    rw [e1]
    clear e0 e1 hk
    go_enter Tryz.func64, Tryz.ntmps64
    go_wp2_with (first
      | (go_at_call 70; refine (ht _).mono ?_; rintro e w' ⟨rfl, hw'⟩; obtain rfl := hw'.symm))
    go_ret
    exact ⟨rfl, below2' _ _ _⟩

end Go.Proofs.YtkombdkhodjckaaGreat
