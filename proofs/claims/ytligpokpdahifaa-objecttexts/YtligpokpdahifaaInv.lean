/- What an arena is of objects; plain lists alone. -/
import Derived.Test.YtligpokpdahifaaPlaces
namespace Go.Proofs.Ytligpokpdahifaa

/-- An object: where it begins, its kind, its words. -/
structure Ob where
  at_ : Nat
  kind : Nat
  ws : List Nat

def Ob.end_ (o : Ob) : Nat := o.at_ + 1 + o.ws.length

def hd (n : Option Nat) : List Ob → Option Nat
  | [] => n
  | o :: _ => some o.at_

def lst (p : Option Nat) : List Ob → Option Nat
  | [] => p
  | o :: r => lst (some o.at_) r

def encP : Option Nat → Nat
  | none => 0
  | some i => i + 1

def headW (o : Ob) (p n : Option Nat) : Nat := enc o.ws.length (encP p) (n.getD 0) o.kind

/-- The objects stand in the words, tied to one another. -/
def Chain (W : List Nat) : Option Nat → List Ob → Option Nat → Prop
  | _, [], _ => True
  | p, o :: r, n => W[o.at_]? = some (headW o p (hd n r)) ∧ (∀ j, j < o.ws.length → W[o.at_ + 1 + j]? = o.ws[j]?) ∧ Chain W (some o.at_) r n

/-- One behind the other, from a place on. -/
def Srt : Nat → List Ob → Prop
  | _, [] => True
  | lo, o :: r => lo ≤ o.at_ ∧ Srt o.end_ r

theorem lst_append : ∀ (l r : List Ob) (p : Option Nat), lst p (l ++ r) = lst (lst p l) r
  | [], _, _ => rfl
  | o :: l, r, _ => lst_append l r (some o.at_)

theorem hd_append (l r : List Ob) (n : Option Nat) : hd n (l ++ r) = hd (hd n r) l := by cases l <;> rfl

theorem lst_snoc (l : List Ob) (o : Ob) (p : Option Nat) : lst p (l ++ [o]) = some o.at_ := by rw [lst_append]; rfl

theorem lst_mem : ∀ (l : List Ob) (p : Option Nat), lst p l = p ∨ ∃ o ∈ l, lst p l = some o.at_
  | [], _ => .inl rfl
  | o :: r, p => by
    rcases lst_mem r (some o.at_) with h | ⟨q, hq, h⟩
    · exact .inr ⟨o, by simp, h⟩
    · exact .inr ⟨q, by simp [hq], h⟩

theorem Chain_append {W : List Nat} : ∀ (l r : List Ob) (p n : Option Nat), Chain W p (l ++ r) n ↔ Chain W p l (hd n r) ∧ Chain W (lst p l) r n
  | [], r, p, n => by simp [Chain, lst]
  | o :: l, r, p, n => by
    simp only [List.cons_append, Chain, lst, hd_append, Chain_append l r (some o.at_) n]
    constructor
    · rintro ⟨a, b, c, d⟩; exact ⟨⟨a, b, c⟩, d⟩
    · rintro ⟨⟨a, b, c⟩, d⟩; exact ⟨a, b, c, d⟩

theorem Srt_append : ∀ (l r : List Ob) (lo : Nat), Srt lo (l ++ r) ↔ Srt lo l ∧ Srt ((l.getLast?.map Ob.end_).getD lo) r
  | [], r, lo => by simp [Srt]
  | [o], r, lo => by simp [Srt]
  | o :: q :: l, r, lo => by
    have ih := Srt_append (q :: l) r o.end_
    simp only [List.cons_append] at ih ⊢
    simp only [Srt] at ih ⊢
    rw [ih]
    simp [List.getLast?_cons_cons]
    constructor
    · rintro ⟨a, ⟨b, c⟩, d⟩
      refine ⟨⟨a, b, c⟩, ?_⟩
      cases h : (q :: l).getLast? with
      | none => simp at h
      | some z => rw [h] at d; simpa using d
    · rintro ⟨⟨a, b, c⟩, d⟩
      refine ⟨a, ⟨b, c⟩, ?_⟩
      cases h : (q :: l).getLast? with
      | none => simp at h
      | some z => rw [h] at d; simpa using d

theorem Srt.lo : ∀ {l : List Ob} {lo : Nat}, Srt lo l → ∀ o ∈ l, lo ≤ o.at_
  | [], _, _, _, h => by cases h
  | q :: r, lo, ⟨h1, h2⟩, o, h => by
    rcases List.mem_cons.1 h with rfl | h
    · exact h1
    · have := Srt.lo h2 o h; unfold Ob.end_ at this; omega

theorem Srt.mono : ∀ {l : List Ob} {lo lo' : Nat}, Srt lo l → lo' ≤ lo → Srt lo' l
  | [], _, _, _, _ => trivial
  | _ :: _, _, _, ⟨h1, h2⟩, h => ⟨Nat.le_trans h h1, h2⟩

/-- Every object of the first part ends ahead of every one of the second. -/
theorem Srt.apart : ∀ {l r : List Ob} {lo : Nat}, Srt lo (l ++ r) → ∀ o ∈ l, ∀ q ∈ r, o.end_ ≤ q.at_
  | [], _, _, _, _, h, _, _ => by cases h
  | a :: l, r, lo, ⟨_, h2⟩, o, ho, q, hq => by
    rcases List.mem_cons.1 ho with rfl | ho
    · exact Srt.lo h2 q (List.mem_append_right _ hq)
    · exact Srt.apart h2 o ho q hq

/-- Two worlds of words agree on what an object has. -/
def Agree (W W' : List Nat) (o : Ob) : Prop := ∀ i, o.at_ ≤ i → i < o.end_ → W'[i]? = W[i]?

def AgreeB (W W' : List Nat) (o : Ob) : Prop := ∀ i, o.at_ < i → i < o.end_ → W'[i]? = W[i]?

theorem Chain.agree {W W' : List Nat} : ∀ {l : List Ob} {p n : Option Nat}, Chain W p l n → (∀ o ∈ l, Agree W W' o) → Chain W' p l n
  | [], _, _, _, _ => trivial
  | o :: r, p, n, ⟨h1, h2, h3⟩, hag => by
    have ho := hag o (by simp)
    refine ⟨?_, ?_, h3.agree (fun q hq => hag q (by simp [hq]))⟩
    · rw [ho o.at_ (Nat.le_refl _) (by unfold Ob.end_; omega)]; exact h1
    · intro j hj; rw [ho _ (by omega) (by unfold Ob.end_; omega)]; exact h2 j hj

/-- The one behind is another one. -/
theorem Chain.relinkN {W W' : List Nat} {l : List Ob} {q : Ob} {p n n' : Option Nat} (h : Chain W p (l ++ [q]) n) (hag : ∀ o ∈ l, Agree W W' o) (hq : AgreeB W W' q) (hh : W'[q.at_]? = some (headW q (lst p l) n')) : Chain W' p (l ++ [q]) n' := by
  rw [Chain_append] at h ⊢
  refine ⟨h.1.agree hag, hh, ?_, trivial⟩
  intro j hj
  rw [hq _ (by omega) (by unfold Ob.end_; omega)]; exact h.2.2.1 j hj

/-- The one ahead is another one. -/
theorem Chain.relinkP {W W' : List Nat} {r : List Ob} {q : Ob} {p p' n : Option Nat} (h : Chain W p (q :: r) n) (hag : ∀ o ∈ r, Agree W W' o) (hq : AgreeB W W' q) (hh : W'[q.at_]? = some (headW q p' (hd n r))) : Chain W' p' (q :: r) n := by
  refine ⟨hh, ?_, h.2.2.agree hag⟩
  intro j hj
  rw [hq _ (by omega) (by unfold Ob.end_; omega)]; exact h.2.1 j hj

structure Inv (A : Ar) (M : List Ob) : Prop where
  len : A.bs.length = A.ws.length
  le : A.ws.length ≤ A.limit
  lim : A.limit ≤ 1048576
  srt : Srt 0 M
  ins : ∀ o ∈ M, o.end_ ≤ A.ws.length
  knd : ∀ o ∈ M, 3 ≤ o.kind ∧ o.kind ≤ 8
  chn : Chain A.ws none M none
  mrk : ∀ i, A.bs.getD i false = true ↔ ∃ o ∈ M, o.at_ = i
  last : A.last = lst none M

theorem Inv.new (n : Nat) (h : n ≤ 1048576) : Inv (newA n) [] :=
  ⟨rfl, by simp [newA], h, trivial, by simp, by simp, trivial, by simp [newA], rfl⟩

theorem encP_lt {p : Option Nat} {i : Nat} (h : ∀ j, p = some j → j < i) (hi : i < 1048576) : encP p < 1048576 := by
  cases p with
  | none => simp [encP]
  | some j => have := h j rfl; simp [encP]; omega

theorem ahd_headW {o : Ob} {p n : Option Nat} (hs : o.ws.length < 1048576) (hp : encP p < 1048576) : ahd (headW o p n) = p := by
  unfold ahd headW
  rw [fld1 hs hp]
  cases p <;> simp [encP]

theorem bhd_headW {o : Ob} {p n : Option Nat} (hs : o.ws.length < 1048576) (hp : encP p < 1048576) (hn : ∀ j, n = some j → 0 < j ∧ j < 1048576) : bhd (headW o p n) = n := by
  unfold bhd headW
  have hlt : n.getD 0 < 1048576 := by cases n with
    | none => simp
    | some j => exact (hn j rfl).2
  rw [fld2 hs hp hlt]
  cases n with
  | none => simp
  | some j => have := (hn j rfl).1; simp; omega

theorem size_headW {o : Ob} {p n : Option Nat} (hs : o.ws.length < 1048576) : fld (headW o p n) 0 = o.ws.length := by
  unfold headW; rw [fld0 hs]

/-- Back from the last of a chain. -/
theorem Chain.back {W : List Nat} : ∀ {l : List Ob} {p n : Option Nat} {lo : Nat} {rest : List Nat}, Chain W p l n → Srt lo l → (∀ o ∈ l, o.end_ ≤ 1048576) → (∀ j, p = some j → j < lo) → BackOf W p rest → BackOf W (lst p l) ((l.map Ob.at_).reverse ++ rest)
  | [], _, _, _, _, _, _, _, _, hb => by simpa [lst] using hb
  | o :: r, p, n, lo, rest, ⟨h1, _, h3⟩, ⟨s1, s2⟩, hin, hp, hb => by
    have ho : o.end_ ≤ 1048576 := hin o (by simp)
    have hb' : BackOf W (some o.at_) (o.at_ :: rest) := by
      refine ⟨rfl, _, h1, ?_, ?_⟩
      · rw [ahd_headW (by unfold Ob.end_ at ho; omega) (encP_lt (i := o.at_) (fun j hj => by have := hp j hj; omega) (by unfold Ob.end_ at ho; omega))]
        intro j hj; have := hp j hj; omega
      · rw [ahd_headW (by unfold Ob.end_ at ho; omega) (encP_lt (i := o.at_) (fun j hj => by have := hp j hj; omega) (by unfold Ob.end_ at ho; omega))]
        exact hb
    have := Chain.back h3 s2 (fun q hq => hin q (by simp [hq])) (fun j hj => by cases hj; unfold Ob.end_; omega) hb'
    simpa [lst] using this

theorem Inv.back {A : Ar} {M : List Ob} (h : Inv A M) : BackOf A.ws A.last (M.map Ob.at_).reverse := by
  rw [h.last]
  have := h.chn.back (rest := []) h.srt (fun o ho => Nat.le_trans (h.ins o ho) (Nat.le_trans h.le h.lim)) (fun j hj => by cases hj) rfl
  simpa using this

theorem Inv.back_at {A : Ar} {l r : List Ob} {o : Ob} (h : Inv A (l ++ o :: r)) : BackOf A.ws (some o.at_) (o.at_ :: (l.map Ob.at_).reverse) := by
  have hc : Chain A.ws none (l ++ [o]) (hd none r) := by
    have := h.chn
    rw [show l ++ o :: r = (l ++ [o]) ++ r by simp, Chain_append] at this
    exact this.1
  have hs : Srt 0 (l ++ [o]) := by
    have := h.srt
    rw [show l ++ o :: r = (l ++ [o]) ++ r by simp, Srt_append] at this
    exact this.1
  have := hc.back (rest := []) hs (fun q hq => Nat.le_trans (h.ins q (by simp at hq ⊢; rcases hq with hq | rfl <;> simp [*])) (Nat.le_trans h.le h.lim)) (fun j hj => by cases hj) rfl
  rw [lst_snoc] at this
  simpa using this

end Go.Proofs.Ytligpokpdahifaa
