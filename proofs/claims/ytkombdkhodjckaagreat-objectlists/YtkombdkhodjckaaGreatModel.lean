/- What an arena is of objects; plain lists alone. -/
import Derived.Test.YtkombdkhodjckaaGreatPlaces
namespace Go.Proofs.YtkombdkhodjckaaGreat

/-- An object: where it begins, its kind, its words. -/
structure Ob where
  at_ : Nat
  kind : Nat
  ws : List Nat

def Ob.end_ (o : Ob) : Nat := o.at_ + 1 + o.ws.length

def hd (n : Option Nat) : List Ob → Option Nat
  | [] => n
  | o :: _ => some o.at_

def lst (p : Option Nat) : List Ob → Option Nat
  | [] => p
  | o :: r => lst (some o.at_) r

def encP : Option Nat → Nat
  | none => 0
  | some i => i + 1

def headW (o : Ob) (p n : Option Nat) : Nat := enc o.ws.length (encP p) (n.getD 0) o.kind

/-- The objects stand in the words, tied to one another. -/
def Chain (W : List Nat) : Option Nat → List Ob → Option Nat → Prop
  | _, [], _ => True
  | p, o :: r, n => W[o.at_]? = some (headW o p (hd n r)) ∧ (∀ j, j < o.ws.length → W[o.at_ + 1 + j]? = o.ws[j]?) ∧ Chain W (some o.at_) r n

/-- One behind the other, from a place on. -/
def Srt : Nat → List Ob → Prop
  | _, [] => True
  | lo, o :: r => lo ≤ o.at_ ∧ Srt o.end_ r

theorem lst_append : ∀ (l r : List Ob) (p : Option Nat), lst p (l ++ r) = lst (lst p l) r
  | [], _, _ => rfl
  | o :: l, r, _ => lst_append l r (some o.at_)

theorem hd_append (l r : List Ob) (n : Option Nat) : hd n (l ++ r) = hd (hd n r) l := by cases l <;> rfl

theorem lst_snoc (l : List Ob) (o : Ob) (p : Option Nat) : lst p (l ++ [o]) = some o.at_ := by rw [lst_append]; rfl

theorem lst_mem : ∀ (l : List Ob) (p : Option Nat), lst p l = p ∨ ∃ o ∈ l, lst p l = some o.at_
  | [], _ => .inl rfl
  | o :: r, p => by
    rcases lst_mem r (some o.at_) with h | ⟨q, hq, h⟩
    · exact .inr ⟨o, by simp, h⟩
    · exact .inr ⟨q, by simp [hq], h⟩

theorem Chain_append {W : List Nat} : ∀ (l r : List Ob) (p n : Option Nat), Chain W p (l ++ r) n ↔ Chain W p l (hd n r) ∧ Chain W (lst p l) r n
  | [], r, p, n => by simp [Chain, lst]
  | o :: l, r, p, n => by
    simp only [List.cons_append, Chain, lst, hd_append, Chain_append l r (some o.at_) n]
    constructor
    · rintro ⟨a, b, c, d⟩; exact ⟨⟨a, b, c⟩, d⟩
    · rintro ⟨⟨a, b, c⟩, d⟩; exact ⟨a, b, c, d⟩

theorem Srt_append : ∀ (l r : List Ob) (lo : Nat), Srt lo (l ++ r) ↔ Srt lo l ∧ Srt ((l.getLast?.map Ob.end_).getD lo) r
  | [], r, lo => by simp [Srt]
  | [o], r, lo => by simp [Srt]
  | o :: q :: l, r, lo => by
    have ih := Srt_append (q :: l) r o.end_
    simp only [List.cons_append] at ih ⊢
    simp only [Srt] at ih ⊢
    rw [ih]
    simp [List.getLast?_cons_cons]
    constructor
    · rintro ⟨a, ⟨b, c⟩, d⟩
      refine ⟨⟨a, b, c⟩, ?_⟩
      cases h : (q :: l).getLast? with
      | none => simp at h
      | some z => rw [h] at d; simpa using d
    · rintro ⟨⟨a, b, c⟩, d⟩
      refine ⟨a, ⟨b, c⟩, ?_⟩
      cases h : (q :: l).getLast? with
      | none => simp at h
      | some z => rw [h] at d; simpa using d

theorem Srt.lo : ∀ {l : List Ob} {lo : Nat}, Srt lo l → ∀ o ∈ l, lo ≤ o.at_
  | [], _, _, _, h => by cases h
  | q :: r, lo, ⟨h1, h2⟩, o, h => by
    rcases List.mem_cons.1 h with rfl | h
    · exact h1
    · have := Srt.lo h2 o h; unfold Ob.end_ at this; omega

theorem Srt.mono : ∀ {l : List Ob} {lo lo' : Nat}, Srt lo l → lo' ≤ lo → Srt lo' l
  | [], _, _, _, _ => trivial
  | _ :: _, _, _, ⟨h1, h2⟩, h => ⟨Nat.le_trans h h1, h2⟩

/-- Every object of the first part ends ahead of every one of the second. -/
theorem Srt.apart : ∀ {l r : List Ob} {lo : Nat}, Srt lo (l ++ r) → ∀ o ∈ l, ∀ q ∈ r, o.end_ ≤ q.at_
  | [], _, _, _, _, h, _, _ => by cases h
  | a :: l, r, lo, ⟨_, h2⟩, o, ho, q, hq => by
    rcases List.mem_cons.1 ho with rfl | ho
    · exact Srt.lo h2 q (List.mem_append_right _ hq)
    · exact Srt.apart h2 o ho q hq

/-- Two worlds of words agree on what an object has. -/
def Agree (W W' : List Nat) (o : Ob) : Prop := ∀ i, o.at_ ≤ i → i < o.end_ → W'[i]? = W[i]?

def AgreeB (W W' : List Nat) (o : Ob) : Prop := ∀ i, o.at_ < i → i < o.end_ → W'[i]? = W[i]?

theorem Chain.agree {W W' : List Nat} : ∀ {l : List Ob} {p n : Option Nat}, Chain W p l n → (∀ o ∈ l, Agree W W' o) → Chain W' p l n
  | [], _, _, _, _ => trivial
  | o :: r, p, n, ⟨h1, h2, h3⟩, hag => by
    have ho := hag o (by simp)
    refine ⟨?_, ?_, h3.agree (fun q hq => hag q (by simp [hq]))⟩
    · rw [ho o.at_ (Nat.le_refl _) (by unfold Ob.end_; omega)]; exact h1
    · intro j hj; rw [ho _ (by omega) (by unfold Ob.end_; omega)]; exact h2 j hj

/-- The one behind is another one. -/
theorem Chain.relinkN {W W' : List Nat} {l : List Ob} {q : Ob} {p n n' : Option Nat} (h : Chain W p (l ++ [q]) n) (hag : ∀ o ∈ l, Agree W W' o) (hq : AgreeB W W' q) (hh : W'[q.at_]? = some (headW q (lst p l) n')) : Chain W' p (l ++ [q]) n' := by
  rw [Chain_append] at h ⊢
  refine ⟨h.1.agree hag, hh, ?_, trivial⟩
  intro j hj
  rw [hq _ (by omega) (by unfold Ob.end_; omega)]; exact h.2.2.1 j hj

/-- The one ahead is another one. -/
theorem Chain.relinkP {W W' : List Nat} {r : List Ob} {q : Ob} {p p' n : Option Nat} (h : Chain W p (q :: r) n) (hag : ∀ o ∈ r, Agree W W' o) (hq : AgreeB W W' q) (hh : W'[q.at_]? = some (headW q p' (hd n r))) : Chain W' p' (q :: r) n := by
  refine ⟨hh, ?_, h.2.2.agree hag⟩
  intro j hj
  rw [hq _ (by omega) (by unfold Ob.end_; omega)]; exact h.2.1 j hj

structure Inv (A : Ar) (M : List Ob) : Prop where
  len : A.bs.length = A.ws.length
  le : A.ws.length ≤ A.limit
  lim : A.limit ≤ 1048576
  srt : Srt 0 M
  ins : ∀ o ∈ M, o.end_ ≤ A.ws.length
  knd : ∀ o ∈ M, 3 ≤ o.kind ∧ o.kind ≤ 8
  chn : Chain A.ws none M none
  mrk : ∀ i, A.bs.getD i false = true ↔ ∃ o ∈ M, o.at_ = i
  last : A.last = lst none M

theorem Inv.new (n : Nat) (h : n ≤ 1048576) : Inv (newA n) [] :=
  ⟨rfl, by simp [newA], h, trivial, by simp, by simp, trivial, by simp [newA], rfl⟩

theorem encP_lt {p : Option Nat} {i : Nat} (h : ∀ j, p = some j → j < i) (hi : i < 1048576) : encP p < 1048576 := by
  cases p with
  | none => simp [encP]
  | some j => have := h j rfl; simp [encP]; omega

theorem ahd_headW {o : Ob} {p n : Option Nat} (hs : o.ws.length < 1048576) (hp : encP p < 1048576) : ahd (headW o p n) = p := by
  unfold ahd headW
  rw [fld1 hs hp]
  cases p <;> simp [encP]

theorem bhd_headW {o : Ob} {p n : Option Nat} (hs : o.ws.length < 1048576) (hp : encP p < 1048576) (hn : ∀ j, n = some j → 0 < j ∧ j < 1048576) : bhd (headW o p n) = n := by
  unfold bhd headW
  have hlt : n.getD 0 < 1048576 := by cases n with
    | none => simp
    | some j => exact (hn j rfl).2
  rw [fld2 hs hp hlt]
  cases n with
  | none => simp
  | some j => have := (hn j rfl).1; simp; omega

theorem size_headW {o : Ob} {p n : Option Nat} (hs : o.ws.length < 1048576) : fld (headW o p n) 0 = o.ws.length := by
  unfold headW; rw [fld0 hs]

/-- Back from the last of a chain. -/
theorem Chain.back {W : List Nat} : ∀ {l : List Ob} {p n : Option Nat} {lo : Nat} {rest : List Nat}, Chain W p l n → Srt lo l → (∀ o ∈ l, o.end_ ≤ 1048576) → (∀ j, p = some j → j < lo) → BackOf W p rest → BackOf W (lst p l) ((l.map Ob.at_).reverse ++ rest)
  | [], _, _, _, _, _, _, _, _, hb => by simpa [lst] using hb
  | o :: r, p, n, lo, rest, ⟨h1, _, h3⟩, ⟨s1, s2⟩, hin, hp, hb => by
    have ho : o.end_ ≤ 1048576 := hin o (by simp)
    have hb' : BackOf W (some o.at_) (o.at_ :: rest) := by
      refine ⟨rfl, _, h1, ?_, ?_⟩
      · rw [ahd_headW (by unfold Ob.end_ at ho; omega) (encP_lt (i := o.at_) (fun j hj => by have := hp j hj; omega) (by unfold Ob.end_ at ho; omega))]
        intro j hj; have := hp j hj; omega
      · rw [ahd_headW (by unfold Ob.end_ at ho; omega) (encP_lt (i := o.at_) (fun j hj => by have := hp j hj; omega) (by unfold Ob.end_ at ho; omega))]
        exact hb
    have := Chain.back h3 s2 (fun q hq => hin q (by simp [hq])) (fun j hj => by cases hj; unfold Ob.end_; omega) hb'
    simpa [lst] using this

theorem Inv.back {A : Ar} {M : List Ob} (h : Inv A M) : BackOf A.ws A.last (M.map Ob.at_).reverse := by
  rw [h.last]
  have := h.chn.back (rest := []) h.srt (fun o ho => Nat.le_trans (h.ins o ho) (Nat.le_trans h.le h.lim)) (fun j hj => by cases hj) rfl
  simpa using this

theorem Inv.back_at {A : Ar} {l r : List Ob} {o : Ob} (h : Inv A (l ++ o :: r)) : BackOf A.ws (some o.at_) (o.at_ :: (l.map Ob.at_).reverse) := by
  have hc : Chain A.ws none (l ++ [o]) (hd none r) := by
    have := h.chn
    rw [show l ++ o :: r = (l ++ [o]) ++ r by simp, Chain_append] at this
    exact this.1
  have hs : Srt 0 (l ++ [o]) := by
    have := h.srt
    rw [show l ++ o :: r = (l ++ [o]) ++ r by simp, Srt_append] at this
    exact this.1
  have := hc.back (rest := []) hs (fun q hq => Nat.le_trans (h.ins q (by simp at hq ⊢; rcases hq with hq | rfl <;> simp [*])) (Nat.le_trans h.le h.lim)) (fun j hj => by cases hj) rfl
  rw [lst_snoc] at this
  simpa using this

end Go.Proofs.YtkombdkhodjckaaGreat

namespace Go.Proofs.YtkombdkhodjckaaGreat

theorem setW_get (A : Ar) (i f v j : Nat) : (setW A i f v).ws[j]? = if i = j ∧ j < A.ws.length then some (setf (A.ws.getD i 0) f v) else A.ws[j]? := by
  simp only [setW, List.getElem?_set]
  by_cases h : i = j
  · subst h
    by_cases h2 : i < A.ws.length
    · simp [h2]
    · simp [h2]
  · simp [h]

theorem getD_of {W : List Nat} {i z : Nat} (h : W[i]? = some z) : W.getD i 0 = z := by simp [List.getD, h]

theorem tieA_other (A : Ar) (x y : Option Nat) (j : Nat) (hx : x ≠ some j) (hy : y ≠ some j) : (tieA A x y).ws[j]? = A.ws[j]? := by
  have hx' : ∀ i, x = some i → i ≠ j := fun i e e' => hx (by rw [e, e'])
  have hy' : ∀ i, y = some i → i ≠ j := fun i e e' => hy (by rw [e, e'])
  cases x with
  | none => cases y with
    | none => rfl
    | some k => simp [tieA, setW_get, hy' k rfl]
  | some i => cases y with
    | none => simp [tieA, setW_get, hx' i rfl]
    | some k => simp [tieA, setW_get, hx' i rfl, hy' k rfl]

theorem tieA_x {A : Ar} {i z : Nat} {y : Option Nat} (hy : y ≠ some i) (hw : A.ws[i]? = some z) : (tieA A (some i) y).ws[i]? = some (setf z 2 (y.getD 0)) := by
  have hlt : i < A.ws.length := (List.getElem?_eq_some_iff.1 hw).1
  cases y with
  | none =>
    show (setW A i 2 0).ws[i]? = _
    rw [setW_get, if_pos ⟨rfl, hlt⟩, getD_of hw]; rfl
  | some k =>
    have hk : k ≠ i := fun e => hy (by rw [e])
    show (setW (setW A i 2 k) k 1 (i + 1)).ws[i]? = _
    rw [setW_get, if_neg (fun e => hk e.1), setW_get, if_pos ⟨rfl, hlt⟩, getD_of hw]; rfl

theorem tieA_y {A : Ar} {j z : Nat} {x : Option Nat} (hx : x ≠ some j) (hw : A.ws[j]? = some z) : (tieA A x (some j)).ws[j]? = some (setf z 1 (encP x)) := by
  have hlt : j < A.ws.length := (List.getElem?_eq_some_iff.1 hw).1
  cases x with
  | none =>
    show (setW A j 1 0).ws[j]? = _
    rw [setW_get, if_pos ⟨rfl, hlt⟩, getD_of hw]; rfl
  | some k =>
    have hk : k ≠ j := fun e => hx (by rw [e])
    have hw' : (setW A k 2 j).ws[j]? = some z := by rw [setW_get, if_neg (fun e => hk e.1)]; exact hw
    show (setW (setW A k 2 j) j 1 (k + 1)).ws[j]? = _
    rw [setW_get, if_pos ⟨rfl, by simpa using hlt⟩, getD_of hw']; rfl

theorem tieA_lastN (A : Ar) (x : Option Nat) : (tieA A x none).last = x := by cases x <;> rfl

theorem tieA_lastS (A : Ar) (x : Option Nat) (j : Nat) : (tieA A x (some j)).last = A.last := by cases x <;> rfl

theorem snoc_cases (M : List Ob) : M = [] ∨ ∃ l q, M = l ++ [q] := by
  rcases List.eq_nil_or_concat M with h | ⟨l, q, h⟩
  · exact .inl h
  · exact .inr ⟨l, q, by simpa using h⟩

theorem Srt.end_le {M : List Ob} {n : Nat} (h : ∀ o ∈ M, o.end_ ≤ n) : (M.getLast?.map Ob.end_).getD 0 ≤ n := by
  cases e : M.getLast? with
  | none => simp
  | some q => simpa using h q (List.mem_of_getLast? e)

theorem Inv.lt20 {A : Ar} {M : List Ob} (h : Inv A M) {o : Ob} (ho : o ∈ M) : o.end_ ≤ 1048576 := Nat.le_trans (h.ins o ho) (Nat.le_trans h.le h.lim)

theorem addA_len (A : Ar) (k size : Nat) : (addA A k size).ws.length = A.ws.length + size + 1 := by
  simp [addA, tieA_len]; omega

theorem addA_limit (A : Ar) (k size : Nat) : (addA A k size).limit = A.limit := by simp [addA, tieA_limit]

theorem Inv.add {A : Ar} {M : List Ob} (h : Inv A M) (k size : Nat) (hk : 3 ≤ k ∧ k ≤ 8) (hs : A.ws.length + size + 1 ≤ A.limit) : Inv (addA A k size) (M ++ [⟨A.ws.length, k, List.replicate size 0⟩]) := by
  have hlim := h.lim
  obtain ⟨n, hn⟩ : ∃ n, A.ws.length = n := ⟨_, rfl⟩
  have hlen := addA_len A k size
  have hlimit := addA_limit A k size
  rw [hn] at hs hlen ⊢
  have hbs : (addA A k size).bs = (A.bs ++ List.replicate (size + 1) false).set n true := by simp [addA, tieA_bs, hn]
  have hlast : (addA A k size).last = some n := by simp [addA, tieA_lastN, hn]
  -- the words
  obtain ⟨A3, hA3⟩ : ∃ A3, setW (setW { A with ws := A.ws ++ List.replicate (size + 1) 0, bs := (A.bs ++ List.replicate (size + 1) false).set n true } n 0 size) n 3 k = A3 := ⟨_, rfl⟩
  have h3n : A3.ws[n]? = some (enc size 0 0 k) := by
    rw [← hA3, setW_get]
    have e1 : (setW { A with ws := A.ws ++ List.replicate (size + 1) 0, bs := (A.bs ++ List.replicate (size + 1) false).set n true } n 0 size).ws[n]? = some (enc size 0 0 0) := by
      rw [setW_get, if_pos ⟨rfl, by simp [hn]⟩]
      have e0 : (A.ws ++ List.replicate (size + 1) 0).getD n 0 = 0 := by
        rw [List.getD_eq_getElem?_getD, List.getElem?_append_right (by omega)]; simp [hn]
      dsimp only
      rw [e0]
      exact congrArg some (setf0 (s := 0) (a := 0) (b := 0) (k := 0) (by omega) (by omega) (by omega) (by omega) (by omega))
    rw [if_pos ⟨rfl, by simp [hn]⟩, getD_of e1, setf3 (by omega) (by omega) (by omega) (by omega) (by omega)]
  have h3o : ∀ j, j ≠ n → A3.ws[j]? = (A.ws ++ List.replicate (size + 1) 0)[j]? := by
    intro j hj
    rw [← hA3, setW_get, if_neg (by omega), setW_get, if_neg (by omega)]
  have hlastlt : ∀ i, A.last = some i → i < n ∧ ∃ l q, M = l ++ [q] ∧ q.at_ = i := by
    intro i hi
    rcases snoc_cases M with hM | ⟨l, q, hM⟩
    · rw [h.last, hM] at hi; cases hi
    · rw [h.last, hM, lst_snoc] at hi
      cases hi
      have := h.ins q (by rw [hM]; simp)
      unfold Ob.end_ at this
      exact ⟨by omega, l, q, hM, rfl⟩
  have hne : A.last ≠ some n := fun e => by have := (hlastlt n e).1; omega
  have hA5 : addA A k size = tieA (tieA A3 A.last (some n)) (some n) none := by
    rw [← hA3]; simp [addA, hn]
  have h5n : (addA A k size).ws[n]? = some (enc size (encP A.last) 0 k) := by
    have e1 := tieA_y hne h3n
    have hp : encP A.last < 1048576 := encP_lt (i := n) (fun j hj => (hlastlt j hj).1) (by omega)
    rw [setf1 (by omega) (by omega) (by omega) (by omega) hp] at e1
    rw [hA5, tieA_x (by simp) e1]
    simp only [Option.getD_none]
    rw [setf2 (by omega) hp (by omega) (by omega) (by omega)]
  have h5o : ∀ j, j ≠ n → A.last ≠ some j → (addA A k size).ws[j]? = (A.ws ++ List.replicate (size + 1) 0)[j]? := by
    intro j hj hl
    rw [hA5, tieA_other _ _ _ _ (by simpa using fun e => hj e.symm) (by simp), tieA_other _ _ _ _ hl (by simpa using fun e => hj e.symm), h3o j hj]
  have h5l : ∀ i z, A.last = some i → A.ws[i]? = some z → (addA A k size).ws[i]? = some (setf z 2 n) := by
    intro i z hi hz
    have hin := (hlastlt i hi).1
    rw [hA5, tieA_other _ _ _ _ (by simpa using fun e : n = i => by omega) (by simp), hi, tieA_x (z := z) (by simpa using fun e : n = i => by omega)]
    · rfl
    · rw [h3o i (by omega), List.getElem?_append_left (by omega)]; exact hz
  have hold : ∀ j, j < n → A.last ≠ some j → (addA A k size).ws[j]? = A.ws[j]? := by
    intro j hj hl
    rw [h5o j (by omega) hl, List.getElem?_append_left (by omega)]
  have hins : ∀ o ∈ M, o.end_ ≤ n := fun o ho => by rw [← hn]; exact h.ins o ho
  have hnew : Chain (addA A k size).ws (lst none M) [⟨n, k, List.replicate size 0⟩] none := by
    refine ⟨?_, ?_, trivial⟩
    · show (addA A k size).ws[n]? = _
      rw [h5n]; unfold headW; rw [← h.last]; simp [hd]
    · intro j hj
      simp only [List.length_replicate] at hj
      show (addA A k size).ws[n + 1 + j]? = _
      rw [h5o _ (by omega) (fun e => by have := (hlastlt _ e).1; omega), List.getElem?_append_right (by omega), List.getElem?_replicate, List.getElem?_replicate, if_pos (by omega), if_pos hj]
  refine ⟨?_, ?_, ?_, ?_, ?_, ?_, ?_, ?_, ?_⟩
  · rw [hbs, hlen]; simp [h.len, hn]; omega
  · rw [hlen, hlimit]; omega
  · rw [hlimit]; exact hlim
  · rw [Srt_append]
    exact ⟨h.srt, Srt.end_le hins, trivial⟩
  · intro o ho
    rw [hlen]
    rcases List.mem_append.1 ho with ho | ho
    · have := hins o ho; omega
    · simp at ho; subst ho; simp [Ob.end_]; omega
  · intro o ho
    rcases List.mem_append.1 ho with ho | ho
    · exact h.knd o ho
    · simp at ho; subst ho; exact hk
  · rw [Chain_append]
    refine ⟨?_, hnew⟩
    show Chain _ none M (some n)
    rcases snoc_cases M with hM | ⟨l, q, hM⟩
    · rw [hM]; trivial
    · have hl : A.last = some q.at_ := by rw [h.last, hM, lst_snoc]
      rw [hM] at hins
      have hc := h.chn
      rw [hM] at hc ⊢
      have hs := h.srt
      rw [hM] at hs
      have hq := hins q (by simp)
      refine hc.relinkN ?_ ?_ ?_
      · intro o ho i h1 h2
        have h3 := Srt.apart hs o ho q (by simp)
        have h4 := hins o (by simp [ho])
        refine hold i (by omega) ?_
        rw [hl]; simp; omega
      · intro i h1 h2
        refine hold i (by omega) ?_
        rw [hl]; simp; omega
      · rw [Chain_append] at hc
        rw [h5l _ _ hl hc.2.1]
        have hq20 := h.lt20 (o := q) (by rw [hM]; simp)
        have hpl : encP (lst none l) < 1048576 := by
          refine encP_lt (i := q.at_) (fun j hj => ?_) (by unfold Ob.end_ at hq20; omega)
          rcases lst_mem l none with e | ⟨o, ho, e⟩
          · rw [e] at hj; cases hj
          · rw [e] at hj; cases hj
            have := Srt.apart hs o ho q (by simp); unfold Ob.end_ at this; omega
        unfold headW
        simp only [hd, Option.getD_none, Option.getD_some]
        rw [setf2 (by unfold Ob.end_ at hq20; omega) hpl (by omega) (by have := (h.knd q (by rw [hM]; simp)).2; omega) (by omega)]
  · intro i
    rw [hbs]
    have hbl : A.bs.length = n := by rw [h.len, hn]
    have key : ((A.bs ++ List.replicate (size + 1) false).set n true).getD i false = if i = n then true else A.bs.getD i false := by
      simp only [List.getD_eq_getElem?_getD, List.getElem?_set]
      by_cases e : n = i
      · subst e; simp [hbl]
      · rw [if_neg e, if_neg (fun e' => e e'.symm)]
        by_cases e2 : i < n
        · rw [List.getElem?_append_left (by omega)]
        · rw [List.getElem?_append_right (by omega), List.getElem?_eq_none (l := A.bs) (by omega), List.getElem?_replicate]
          split <;> rfl
    rw [key]
    by_cases e : i = n
    · subst e; simp
    · rw [if_neg e, h.mrk i]
      constructor
      · rintro ⟨o, ho, e'⟩; exact ⟨o, by simp [ho], e'⟩
      · rintro ⟨o, ho, e'⟩
        rcases List.mem_append.1 ho with ho | ho
        · exact ⟨o, ho, e'⟩
        · simp at ho; subst ho; exact absurd e'.symm e
  · rw [hlast, lst_snoc]

theorem Inv.write {A : Ar} {l r : List Ob} {o : Ob} (h : Inv A (l ++ o :: r)) (i v : Nat) (hi : i < o.ws.length) : Inv { A with ws := A.ws.set (o.at_ + 1 + i) v } (l ++ { o with ws := o.ws.set i v } :: r) := by
  have hs := h.srt
  have hend : ({ o with ws := o.ws.set i v } : Ob).end_ = o.end_ := by simp [Ob.end_]
  have hoe := h.ins o (by simp)
  have hget : ∀ j, j ≠ o.at_ + 1 + i → (A.ws.set (o.at_ + 1 + i) v)[j]? = A.ws[j]? := by
    intro j hj; rw [List.getElem?_set_ne (fun e => hj e.symm)]
  have hal := fun q hq => Srt.apart hs q hq o (by simp)
  have har : ∀ q ∈ r, o.end_ ≤ q.at_ := fun q hq => Srt.apart (l := l ++ [o]) (r := r) (by simpa using hs) o (by simp) q hq
  refine ⟨by simpa using h.len, by simpa using h.le, h.lim, ?_, ?_, ?_, ?_, ?_, ?_⟩
  · rw [Srt_append] at hs ⊢
    refine ⟨hs.1, hs.2.1, ?_⟩
    rw [hend]; exact hs.2.2
  · intro q hq
    simp only [List.length_set]
    rcases List.mem_append.1 hq with hq | hq
    · exact h.ins q (by simp [hq])
    · rcases List.mem_cons.1 hq with rfl | hq
      · rw [hend]; exact hoe
      · exact h.ins q (by simp [hq])
  · intro q hq
    rcases List.mem_append.1 hq with hq | hq
    · exact h.knd q (by simp [hq])
    · rcases List.mem_cons.1 hq with rfl | hq
      · exact h.knd o (by simp)
      · exact h.knd q (by simp [hq])
  · have hc := h.chn
    rw [Chain_append] at hc ⊢
    refine ⟨?_, ?_, ?_, ?_⟩
    · exact hc.1.agree (fun q hq j h1 h2 => hget j (by have := hal q hq; omega))
    · show (A.ws.set _ v)[o.at_]? = some (headW { o with ws := o.ws.set i v } _ _)
      rw [hget _ (by omega), hc.2.1]; simp [headW]
    · intro j hj
      simp only [List.length_set] at hj
      show (A.ws.set _ v)[o.at_ + 1 + j]? = (o.ws.set i v)[j]?
      by_cases e : i = j
      · subst e
        rw [List.getElem?_set_self (by unfold Ob.end_ at hoe; omega), List.getElem?_set_self hi]
      · rw [hget _ (by omega), List.getElem?_set_ne e]; exact hc.2.2.1 j hj
    · exact hc.2.2.2.agree (fun q hq j h1 h2 => hget j (by have := har q hq; unfold Ob.end_ at this; omega))
  · intro j
    rw [h.mrk j]
    constructor
    · rintro ⟨q, hq, e⟩
      rcases List.mem_append.1 hq with hq | hq
      · exact ⟨q, by simp [hq], e⟩
      · rcases List.mem_cons.1 hq with rfl | hq
        · exact ⟨{ q with ws := q.ws.set i v }, List.mem_append_right _ (by simp), e⟩
        · exact ⟨q, by simp [hq], e⟩
    · rintro ⟨q, hq, e⟩
      rcases List.mem_append.1 hq with hq | hq
      · exact ⟨q, by simp [hq], e⟩
      · rcases List.mem_cons.1 hq with rfl | hq
        · exact ⟨o, by simp, e⟩
        · exact ⟨q, by simp [hq], e⟩
  · show A.last = _
    rw [h.last, lst_append, lst_append]; rfl

end Go.Proofs.YtkombdkhodjckaaGreat

namespace Go.Proofs.YtkombdkhodjckaaGreat

theorem find_lst {l : List Ob} {t : Nat} (hl : ∀ o ∈ l, o.at_ < t) : (l.map Ob.at_).reverse.find? (fun y => decide (y < t)) = lst none l := by
  rcases snoc_cases l with rfl | ⟨l', q, rfl⟩
  · rfl
  · rw [lst_snoc]; simp [hl q (by simp)]

theorem find_split {l : List Ob} {t : Nat} {pre : List Nat} (hl : ∀ o ∈ l, o.at_ < t) (hp : ∀ y ∈ pre, ¬ y < t) : (pre ++ (l.map Ob.at_).reverse).find? (fun y => decide (y < t)) = lst none l := by
  rw [List.find?_append, find_none hp, find_lst hl]; rfl

theorem Inv.head {A : Ar} {l r : List Ob} {o : Ob} (h : Inv A (l ++ o :: r)) : A.ws[o.at_]? = some (headW o (lst none l) (hd none r)) := by
  have := h.chn
  rw [Chain_append] at this
  exact this.2.1

theorem Inv.encP {A : Ar} {l r : List Ob} {o : Ob} (h : Inv A (l ++ o :: r)) : ∀ j, lst none l = some j → j < o.at_ := by
  intro j hj
  rcases lst_mem l none with e | ⟨q, hq, e⟩
  · rw [e] at hj; cases hj
  · rw [e] at hj; cases hj
    have := Srt.apart h.srt q hq o (by simp); unfold Ob.end_ at this; omega

theorem Inv.endAt {A : Ar} {l r : List Ob} (h : Inv A (l ++ r)) : YtkombdkhodjckaaGreat.endAt A (lst none l) = (l.getLast?.map Ob.end_).getD 0 := by
  rcases snoc_cases l with rfl | ⟨l', q, rfl⟩
  · rfl
  · have h' : Inv A (l' ++ q :: r) := by simpa using h
    have := h'.head
    have hq := h'.lt20 (o := q) (by simp)
    rw [lst_snoc]
    simp only [YtkombdkhodjckaaGreat.endAt, getD_of this]
    rw [size_headW (by unfold Ob.end_ at hq; omega)]
    simp [Ob.end_]

theorem cutA_len (A : Ar) (s : Option Nat) (t : Nat) (ht : t ≤ A.ws.length) : (cutA A s t).ws.length = t := by simp [cutA, tieA_len]; omega

theorem Inv.cut {A : Ar} {l r : List Ob} (h : Inv A (l ++ r)) (t : Nat) (hl : ∀ o ∈ l, o.end_ ≤ t) (hr : ∀ o ∈ r, t ≤ o.at_) (ht : t ≤ A.ws.length) : Inv (cutA A (lst none l) t) l := by
  have hlen := cutA_len A (lst none l) t ht
  have hs := h.srt
  rw [Srt_append] at hs
  have hget : ∀ i, i < t → (cutA A (lst none l) t).ws[i]? = (tieA A (lst none l) none).ws[i]? := by
    intro i hi; simp only [cutA]; rw [List.getElem?_take_of_lt hi]
  refine ⟨?_, ?_, ?_, hs.1, ?_, fun o ho => h.knd o (by simp [ho]), ?_, ?_, ?_⟩
  · rw [hlen]; simp [cutA, tieA_bs, h.len]; omega
  · rw [hlen]; simp only [cutA, tieA_limit]; exact Nat.le_trans ht h.le
  · simp only [cutA, tieA_limit]; exact h.lim
  · intro o ho; rw [hlen]; exact hl o ho
  · rcases snoc_cases l with rfl | ⟨l', q, rfl⟩
    · trivial
    · have h' : Inv A (l' ++ q :: r) := by simpa using h
      have hc := h.chn
      rw [Chain_append] at hc
      have hq := hl q (by simp)
      have hq20 := h'.lt20 (o := q) (by simp)
      have hoth : ∀ i, i < t → i ≠ q.at_ → (cutA A (lst none (l' ++ [q])) t).ws[i]? = A.ws[i]? := by
        intro i hi hne
        rw [hget i hi, lst_snoc, tieA_other _ _ _ _ (by simpa using fun e => hne e.symm) (by simp)]
      refine hc.1.relinkN ?_ ?_ ?_
      · intro o ho i h1 h2
        have h3 := Srt.apart hs.1 o ho q (by simp)
        unfold Ob.end_ at hq
        exact hoth i (by omega) (by omega)
      · intro i h1 h2
        exact hoth i (by omega) (by omega)
      · unfold Ob.end_ at hq hq20
        rw [hget _ (by omega), lst_snoc, tieA_x (by simp) h'.head]
        unfold headW
        have hp := encP_lt h'.encP (by omega)
        have hnx : (hd none r).getD 0 < 1048576 := by
          cases r with
          | nil => simp [hd]
          | cons q' r' => have := h'.lt20 (o := q') (by simp); unfold Ob.end_ at this; simp [hd]; omega
        simp only [Option.getD_none]
        rw [setf2 (by omega) hp hnx (by have := (h'.knd q (by simp)).2; omega) (by omega)]
  · intro i
    have key : (cutA A (lst none l) t).bs.getD i false = if i < t then A.bs.getD i false else false := by
      simp only [cutA, tieA_bs, List.getD_eq_getElem?_getD, List.getElem?_take]
      split <;> rfl
    rw [key]
    by_cases hi : i < t
    · rw [if_pos hi, h.mrk i]
      constructor
      · rintro ⟨o, ho, e⟩
        rcases List.mem_append.1 ho with ho | ho
        · exact ⟨o, ho, e⟩
        · have := hr o ho; omega
      · rintro ⟨o, ho, e⟩; exact ⟨o, by simp [ho], e⟩
    · rw [if_neg hi]
      constructor
      · intro e; cases e
      · rintro ⟨o, ho, e⟩
        have := hl o ho; unfold Ob.end_ at this; omega
  · simp only [cutA, tieA_lastN]

theorem slide_get (W : List Nat) (t f n j : Nat) (h1 : t ≤ f) (h2 : f + n ≤ W.length) : (slide W t f n)[j]? = if j < t then W[j]? else if j < t + n then W[f + (j - t)]? else W[j]? := by
  unfold slide
  by_cases a : j < t
  · rw [if_pos a, List.getElem?_append_left (by simp; omega), List.getElem?_take_of_lt a]
  · rw [if_neg a, List.getElem?_append_right (by simp; omega)]
    have e : (W.take t).length = t := by simp; omega
    rw [e]
    by_cases c : j < t + n
    · rw [if_pos c, List.getElem?_append_left (by simp; omega), List.getElem?_take_of_lt (by omega), List.getElem?_drop]
    · rw [if_neg c, List.getElem?_append_right (by simp; omega)]
      have e2 : ((W.drop f).take n).length = n := by simp; omega
      rw [e2, List.getElem?_drop]
      congr 1; omega

theorem clr_get : ∀ (L : List Nat) (bs : List Bool) (i : Nat), (clr bs L).getD i false = if i ∈ L then false else bs.getD i false
  | [], bs, i => by simp [clr]
  | a :: r, bs, i => by
    rw [show clr bs (a :: r) = clr (bs.set a false) r from rfl, clr_get r]
    by_cases h : i ∈ r
    · simp [h]
    · rw [if_neg h]
      simp only [List.getD_eq_getElem?_getD, List.getElem?_set]
      by_cases e : a = i
      · subst e; simp; split <;> rfl
      · rw [if_neg e, if_neg]; simp [h]; exact fun e' => e e'.symm

theorem Inv.move {A : Ar} {l mid r : List Ob} {o : Ob} (h : Inv A (l ++ mid ++ o :: r)) (t : Nat) (hl : ∀ q ∈ l, q.end_ ≤ t) (hm : ∀ q ∈ mid, t ≤ q.at_) (ht : t ≤ o.at_) :
    Inv (moveA A (o.at_ :: ((l ++ mid).map Ob.at_).reverse) (lst none l) o.at_ t (headW o (lst none (l ++ mid)) (hd none r))) (l ++ { o with at_ := t } :: r) ∧
    (moveA A (o.at_ :: ((l ++ mid).map Ob.at_).reverse) (lst none l) o.at_ t (headW o (lst none (l ++ mid)) (hd none r))).ws.length = A.ws.length := by
  have hhead := h.head
  have ho20 := h.lt20 (o := o) (by simp)
  have hoin := h.ins o (by simp)
  have hs := h.srt
  have hp0 := encP_lt h.encP (by unfold Ob.end_ at ho20; omega)
  have har : ∀ q ∈ r, o.end_ ≤ q.at_ := fun q hq => Srt.apart (l := (l ++ mid) ++ [o]) (r := r) (by simpa using hs) o (by simp) q hq
  have hnx : ∀ j, hd none r = some j → o.end_ ≤ j ∧ j < 1048576 := by
    intro j hj
    cases r with
    | nil => cases hj
    | cons q' r' =>
      cases hj
      have := h.lt20 (o := q') (by simp)
      have := har q' (by simp)
      unfold Ob.end_ at *; omega
  have hkd := h.knd o (by simp)
  have hstl : ∀ j, lst none l = some j → j < t := by
    intro j hj
    rcases lst_mem l none with e | ⟨q, hq, e⟩
    · rw [e] at hj; cases hj
    · rw [e] at hj; cases hj
      have := hl q hq; unfold Ob.end_ at this; omega
  have hsz : fld (headW o (lst none (l ++ mid)) (hd none r)) 0 = o.ws.length := size_headW (by unfold Ob.end_ at ho20; omega)
  have hbh : bhd (headW o (lst none (l ++ mid)) (hd none r)) = hd none r := bhd_headW (by unfold Ob.end_ at ho20; omega) hp0 (fun j hj => by have := hnx j hj; unfold Ob.end_ at this; omega)
  have hnx20 : (hd none r).getD 0 < 1048576 := by
    cases e : hd none r with
    | none => simp
    | some j => simpa using (hnx j e).2
  obtain ⟨x, hxx⟩ : ∃ x, headW o (lst none (l ++ mid)) (hd none r) = x := ⟨_, rfl⟩
  obtain ⟨nx, hnn⟩ : ∃ nx, hd none r = nx := ⟨_, rfl⟩
  obtain ⟨st, hst⟩ : ∃ st, lst none l = st := ⟨_, rfl⟩
  have hxe : x = enc o.ws.length (YtkombdkhodjckaaGreat.encP (lst none (l ++ mid))) (nx.getD 0) o.kind := by rw [← hxx, ← hnn]; rfl
  rw [hxx] at hhead hsz hbh ⊢
  rw [hnn] at hbh hnx hnx20
  rw [hst] at hstl ⊢
  -- the marks that go
  have hL : (o.at_ :: ((l ++ mid).map Ob.at_).reverse).takeWhile (fun y => decide (some y ≠ st)) = o.at_ :: (mid.map Ob.at_).reverse := by
    have hK : ∀ y ∈ o.at_ :: (mid.map Ob.at_).reverse, t ≤ y := by
      intro y hy
      rcases List.mem_cons.1 hy with rfl | hy
      · exact ht
      · rw [List.mem_reverse] at hy
        obtain ⟨q, hq, rfl⟩ := List.mem_map.1 hy
        exact hm q hq
    have hKn : ∀ y ∈ o.at_ :: (mid.map Ob.at_).reverse, some y ≠ st := fun y hy e => by have := hK y hy; have := hstl y e.symm; omega
    rcases snoc_cases l with hl' | ⟨l', q, hl'⟩
    · subst hl'
      simp only [List.nil_append]
      exact take_all hKn
    · subst hl'
      rw [lst_snoc] at hst
      exact take_pre (x := q.at_) ⟨(l'.map Ob.at_).reverse, by simp⟩ hKn hst
  unfold moveA
  rw [hL, hsz, hbh]
  obtain ⟨A3, hA3⟩ : ∃ A3 : Ar, { A with ws := slide A.ws t o.at_ (o.ws.length + 1), bs := (clr A.bs (o.at_ :: (mid.map Ob.at_).reverse)).set t true } = A3 := ⟨_, rfl⟩
  have hW3 : A3.ws = slide A.ws t o.at_ (o.ws.length + 1) := by rw [← hA3]
  have hW3l : A3.ws.length = A.ws.length := by rw [hW3]; exact slide_length _ _ _ _ ht (by unfold Ob.end_ at hoin; omega)
  have hget : ∀ j, A3.ws[j]? = if j < t then A.ws[j]? else if j < t + (o.ws.length + 1) then A.ws[o.at_ + (j - t)]? else A.ws[j]? := by
    intro j; rw [hW3]; exact slide_get _ _ _ _ _ ht (by unfold Ob.end_ at hoin; omega)
  have hstt : st ≠ some t := fun e => by have := hstl t e; omega
  have hnxt : nx ≠ some t := fun e => by have := (hnx t e).1; unfold Ob.end_ at this; omega
  dsimp only
  rw [hA3]
  obtain ⟨A5, hA5⟩ : ∃ A5, tieA (tieA A3 st (some t)) (some t) nx = A5 := ⟨_, rfl⟩
  have ha : A5.ws[t]? = some (enc o.ws.length (YtkombdkhodjckaaGreat.encP st) (nx.getD 0) o.kind) := by
    have e3 : A3.ws[t]? = some x := by rw [hget, if_neg (by omega), if_pos (by omega), Nat.sub_self, Nat.add_zero]; exact hhead
    have e4 := tieA_y hstt e3
    have hps := encP_lt (p := st) (i := t) hstl (by unfold Ob.end_ at ho20; omega)
    unfold Ob.end_ at ho20
    rw [hxe, setf1 (by omega) hp0 hnx20 (by omega) hps] at e4
    rw [← hA5, tieA_x hnxt e4, setf2 (by omega) hps hnx20 (by omega) hnx20]
  have hb : ∀ i z, st = some i → A.ws[i]? = some z → A5.ws[i]? = some (setf z 2 t) := by
    intro i z hi hz
    have hit := hstl i hi
    rw [← hA5, tieA_other _ _ _ _ (by simp; omega) (fun e => by have := (hnx i e).1; unfold Ob.end_ at this; omega), hi, tieA_x (z := z) (by simp; omega)]
    · rfl
    · rw [hget, if_pos hit]; exact hz
  have hcn : ∀ j z, nx = some j → A.ws[j]? = some z → A5.ws[j]? = some (setf z 1 (t + 1)) := by
    intro j z hj hz
    have hjj := (hnx j hj).1
    unfold Ob.end_ at hjj
    rw [← hA5, hj]
    refine tieA_y (x := some t) (by simp; omega) ?_
    rw [tieA_other _ _ _ _ (fun e => by have := hstl j e; omega) (by simp; omega), hget, if_neg (by omega), if_neg (by omega)]
    exact hz
  have hoth : ∀ j, j ≠ t → st ≠ some j → nx ≠ some j → A5.ws[j]? = if j < t then A.ws[j]? else if j < t + (o.ws.length + 1) then A.ws[o.at_ + (j - t)]? else A.ws[j]? := by
    intro j h1 h2 h3
    rw [← hA5, tieA_other _ _ _ _ (by simpa using fun e => h1 e.symm) h3, tieA_other _ _ _ _ h2 (by simpa using fun e => h1 e.symm)]
    exact hget j
  have hlen : A5.ws.length = A.ws.length := by rw [← hA5, tieA_len, tieA_len, hW3l]
  have hlimit : A5.limit = A.limit := by rw [← hA5, tieA_limit, tieA_limit, ← hA3]
  have hbs : A5.bs = (clr A.bs (o.at_ :: (mid.map Ob.at_).reverse)).set t true := by rw [← hA5, tieA_bs, tieA_bs, ← hA3]
  rw [hA5]
  refine ⟨⟨?_, ?_, ?_, ?_, ?_, ?_, ?_, ?_, ?_⟩, hlen⟩
  · rw [hbs, hlen]; simp [h.len]
  · rw [hlen, hlimit]; exact h.le
  · rw [hlimit]; exact h.lim
  · rw [List.append_assoc, Srt_append] at hs
    rw [Srt_append]
    refine ⟨hs.1, Srt.end_le hl, ?_⟩
    have h2 := h.srt
    rw [Srt_append] at h2
    refine h2.2.2.mono ?_
    simp [Ob.end_]; omega
  · intro q hq
    rw [hlen]
    rcases List.mem_append.1 hq with hq | hq
    · exact h.ins q (by simp [hq])
    · rcases List.mem_cons.1 hq with rfl | hq
      · simp [Ob.end_] at hoin ⊢; omega
      · exact h.ins q (by simp [hq])
  · intro q hq
    rcases List.mem_append.1 hq with hq | hq
    · exact h.knd q (by simp [hq])
    · rcases List.mem_cons.1 hq with rfl | hq
      · exact hkd
      · exact h.knd q (by simp [hq])
  · have hc := h.chn
    rw [Chain_append, Chain_append] at hc
    obtain ⟨⟨hcl, _⟩, hco, hcw, hcr⟩ := hc
    rw [Chain_append]
    refine ⟨?_, ?_, ?_, ?_⟩
    · -- l
      rcases snoc_cases l with hl' | ⟨l', q, hl'⟩
      · rw [hl']; trivial
      · have hq := hl q (by rw [hl']; simp)
        have hqs : st = some q.at_ := by rw [← hst, hl', lst_snoc]
        have hsl : Srt 0 (l' ++ [q]) := by
          rw [← hl']; rw [List.append_assoc, Srt_append] at hs; exact hs.1
        have hinl : Inv A (l' ++ q :: (mid ++ o :: r)) := by
          have := h; rw [hl'] at this; simpa using this
        have hq20 := hinl.lt20 (o := q) (by simp)
        have hold : ∀ i, i < t → i ≠ q.at_ → A5.ws[i]? = A.ws[i]? := by
          intro i h1 h2
          rw [hoth i (by omega) (by rw [hqs]; simpa using fun e => h2 e.symm) (fun e => by have := (hnx i e).1; unfold Ob.end_ at this; omega), if_pos h1]
        unfold Ob.end_ at hq hq20
        rw [hl'] at hcl ⊢
        refine hcl.relinkN ?_ ?_ ?_
        · intro p hp i h1 h2
          have h3 := Srt.apart hsl p hp q (by simp)
          exact hold i (by omega) (by omega)
        · intro i h1 h2
          unfold Ob.end_ at h2
          exact hold i (by omega) (by omega)
        · rw [hb q.at_ _ hqs hinl.head]
          unfold headW
          have hp := encP_lt hinl.encP (by omega)
          have hnq : (hd none (mid ++ o :: r)).getD 0 < 1048576 := by
            cases mid with
            | nil => simp [hd]; unfold Ob.end_ at ho20; omega
            | cons m1 m2 => have := h.lt20 (o := m1) (by simp); unfold Ob.end_ at this; simp [hd]; omega
          have e0 : (hd (some ({ o with at_ := t } : Ob).at_) ([] : List Ob)) = some t := rfl
          rw [setf2 (by omega) hp hnq (by have := (hinl.knd q (by simp)).2; omega) (by unfold Ob.end_ at ho20; omega)]
          rfl
    · -- the head
      show A5.ws[t]? = some (headW { o with at_ := t } (lst none l) (hd none r))
      rw [ha, hst, hnn]; rfl
    · -- the words
      intro j hj
      show A5.ws[t + 1 + j]? = o.ws[j]?
      have hj' : j < o.ws.length := hj
      rw [hoth _ (by omega) (fun e => by have := hstl _ e; omega) (fun e => by have := (hnx _ e).1; unfold Ob.end_ at this; omega), if_neg (by omega), if_pos (by omega), ← hcw j hj']
      congr 1; omega
    · -- r
      show Chain A5.ws (some t) r none
      cases r with
      | nil => trivial
      | cons q' r' =>
        have hqs : nx = some q'.at_ := by rw [← hnn]; rfl
        have hq'e := har q' (by simp)
        have hinr : Inv A ((l ++ mid ++ [o]) ++ q' :: r') := by simpa using h
        have hq20 := hinr.lt20 (o := q') (by simp)
        have hold : ∀ i, q'.at_ < i → A5.ws[i]? = A.ws[i]? := by
          intro i h1
          unfold Ob.end_ at hq'e
          rw [hoth i (by omega) (fun e => by have := hstl i e; omega) (by rw [hqs]; simp; omega), if_neg (by omega), if_neg (by omega)]
        refine hcr.relinkP ?_ ?_ ?_
        · intro p hp i h1 h2
          have h3 := Srt.apart (l := (l ++ mid ++ [o]) ++ [q']) (r := r') (by simpa using hs) q' (by simp) p hp
          unfold Ob.end_ at h3
          exact hold i (by omega)
        · intro i h1 h2
          exact hold i h1
        · rw [hcn q'.at_ _ hqs hinr.head]
          unfold Ob.end_ at hq20 hq'e ho20
          have hp := encP_lt hinr.encP (by omega)
          unfold headW
          have hnq : (hd none r').getD 0 < 1048576 := by
            cases r' with
            | nil => simp [hd]
            | cons m1 m2 => have := h.lt20 (o := m1) (by simp); unfold Ob.end_ at this; simp [hd]; omega
          rw [setf1 (by omega) hp hnq (by have := (hinr.knd q' (by simp)).2; omega) (by omega)]
          rfl
  · intro i
    have htl : t < (clr A.bs (o.at_ :: (mid.map Ob.at_).reverse)).length := by rw [clr_length, h.len]; unfold Ob.end_ at hoin; omega
    have key : A5.bs.getD i false = if i = t then true else if i ∈ o.at_ :: (mid.map Ob.at_).reverse then false else A.bs.getD i false := by
      rw [hbs, ← clr_get]
      simp only [List.getD_eq_getElem?_getD, List.getElem?_set]
      by_cases e : t = i
      · subst e; rw [if_pos rfl, if_pos htl, if_pos rfl]; rfl
      · rw [if_neg e, if_neg (fun e' => e e'.symm)]
    rw [key]
    by_cases e : i = t
    · rw [if_pos e]
      exact ⟨fun _ => ⟨{ o with at_ := t }, List.mem_append_right _ (by simp), e.symm⟩, fun _ => rfl⟩
    · rw [if_neg e]
      by_cases e2 : i ∈ o.at_ :: (mid.map Ob.at_).reverse
      · rw [if_pos e2]
        constructor
        · intro e; cases e
        · rintro ⟨q, hq, rfl⟩
          have hge : t ≤ q.at_ ∧ q.at_ ≤ o.at_ := by
            rcases List.mem_cons.1 e2 with e3 | e3
            · omega
            · rw [List.mem_reverse] at e3
              obtain ⟨m, hmm, e4⟩ := List.mem_map.1 e3
              have := hm m hmm
              have := Srt.apart (l := l ++ mid) (r := o :: r) hs m (by simp [hmm]) o (by simp)
              unfold Ob.end_ at this; omega
          rcases List.mem_append.1 hq with hq | hq
          · have := hl q hq; unfold Ob.end_ at this; omega
          · rcases List.mem_cons.1 hq with rfl | hq
            · exact absurd rfl e
            · have := har q hq; unfold Ob.end_ at this; omega
      · rw [if_neg e2, h.mrk i]
        constructor
        · rintro ⟨q, hq, rfl⟩
          rcases List.mem_append.1 hq with hq | hq
          · rcases List.mem_append.1 hq with hq | hq
            · exact ⟨q, by simp [hq], rfl⟩
            · exact absurd (by simp; exact .inr ⟨q, hq, rfl⟩) e2
          · rcases List.mem_cons.1 hq with rfl | hq
            · exact absurd (by simp) e2
            · exact ⟨q, by simp [hq], rfl⟩
        · rintro ⟨q, hq, rfl⟩
          rcases List.mem_append.1 hq with hq | hq
          · exact ⟨q, by simp [hq], rfl⟩
          · rcases List.mem_cons.1 hq with rfl | hq
            · exact absurd rfl e
            · exact ⟨q, by simp [hq], rfl⟩
  · rw [lst_append]
    show A5.last = lst (some t) r
    cases r with
    | nil =>
      have hn0 : nx = none := by rw [← hnn]; rfl
      rw [← hA5, hn0, tieA_lastN]; rfl
    | cons q' r' =>
      have hqs : nx = some q'.at_ := by rw [← hnn]; rfl
      rw [← hA5, hqs, tieA_lastS, tieA_lastS, ← hA3]
      show A.last = _
      rw [h.last, lst_append]; rfl

end Go.Proofs.YtkombdkhodjckaaGreat

namespace Go.Proofs.YtkombdkhodjckaaGreat
open Go.RowKit

/-- The heap at block bh has the objects M, 'used' words of 'lim'. -/
def Hp (n₀ bh b : Nat) (vw vb : Value) (w : World) (lim used : Nat) (M : List Ob) : Prop :=
  ∃ A, IsHp n₀ bh b vw vb w A ∧ Inv A M ∧ A.limit = lim ∧ A.ws.length = used

variable {n₀ bh b lim used : Nat} {vw vb : Value} {w : World} {M : List Ob}

theorem Hp.below (h : Hp n₀ bh b vw vb w lim used M) {w' : World} (hB : Below w.heap.size w w') : Hp n₀ bh b vw vb w' lim used M := by
  obtain ⟨A, h1, h2, h3, h4⟩ := h; exact ⟨A, h1.below hB, h2, h3, h4⟩

theorem Hp.drewN (h : Hp n₀ bh b vw vb w lim used M) (q : Nat) : Hp n₀ bh b vw vb (w.drewN q) lim used M := by
  obtain ⟨A, h1, h2, h3, h4⟩ := h; exact ⟨A, h1.drewN q, h2, h3, h4⟩

theorem Hp.le (h : Hp n₀ bh b vw vb w lim used M) : used ≤ lim ∧ lim ≤ 1048576 := by
  obtain ⟨A, h1, h2, h3, h4⟩ := h; have := h2.le; have := h2.lim; omega

theorem Hp.lt (h : Hp n₀ bh b vw vb w lim used M) : n₀ ≤ w.heap.size := by
  obtain ⟨A, h1, _⟩ := h; exact Nat.le_trans h1.hbase (Nat.le_of_lt h1.hlt)

theorem Hp.stepBelow (h : Hp n₀ bh b vw vb w lim used M) {vw' vb' : Value} {w' : World} (hS : Step b vw vb w vw' vb' w') : Below n₀ w w' := by
  obtain ⟨A, h1, _⟩ := h; exact hS.below h1.ar

theorem Hp.srt (h : Hp n₀ bh b vw vb w lim used M) : Srt 0 M ∧ ∀ o ∈ M, o.end_ ≤ used := by
  obtain ⟨A, h1, h2, h3, h4⟩ := h; exact ⟨h2.srt, fun o ho => by rw [← h4]; exact h2.ins o ho⟩

/-- A world in which all of the heap's blocks are as they were has the heap. -/
theorem Hp.kept (h : Hp n₀ bh b vw vb w lim used M) {w' : World} (hk : ∀ k, (k = bh ∨ k = b ∨ vw.ownBlock = some k ∨ vb.ownBlock = some k) → w'.heap[k]? = w.heap[k]?) : Hp n₀ bh b vw vb w' lim used M := by
  obtain ⟨A, h1, h2⟩ := h
  exact ⟨A, ⟨h1.hbase, (hk bh (.inl rfl)).trans h1.hblk, h1.ar.kept (hk b (.inr (.inl rfl))) (fun k e => hk k (.inr (.inr (.inl e)))) (fun k e => hk k (.inr (.inr (.inr e))))⟩, h2⟩

theorem Hp.blocks (h : Hp n₀ bh b vw vb w lim used M) : ∀ k, (k = bh ∨ k = b ∨ vw.ownBlock = some k ∨ vb.ownBlock = some k) → n₀ ≤ k ∧ k < w.heap.size ∧ ∃ cur t, w.heap[k]? = some (.cells cur t (0, 0)) ∧ (t = 88 ∨ t = 138 ∨ t = 98 ∨ t = 4) := by
  obtain ⟨A, h1, h2⟩ := h
  rintro k (rfl | rfl | e | e)
  · exact ⟨h1.hbase, h1.hlt, _, _, h1.hblk, .inl rfl⟩
  · exact ⟨h1.ar.base, h1.ar.lt, _, _, h1.ar.blk, .inr (.inl rfl)⟩
  · obtain ⟨cur, hc⟩ := IsAr.row_type h1.ar.rw e
    exact ⟨(h1.ar.rw.lt k e).1, (h1.ar.rw.lt k e).2, cur, 98, hc, .inr (.inr (.inl rfl))⟩
  · obtain ⟨cur, hc⟩ := IsAr.row_type h1.ar.rb e
    exact ⟨(h1.ar.rb.lt k e).1, (h1.ar.rb.lt k e).2, cur, 4, hc, .inr (.inr (.inr rfl))⟩

theorem newM (n : Nat) (w : World) (h1 : 1 ≤ n) (h2 : n ≤ 1048576) : Calls Tryz.prog 14 #[.int .i64 n] w fun e w' => ∃ bh b vw vb, e = .returned (.tuple #[.pointer (some ⟨bh, 0, none⟩), .int .i64 0]) ∧
    Hp w.heap.size bh b vw vb w' n 0 [] ∧ Below w.heap.size w w' := by
  refine (new_in n w h1 h2).mono ?_
  rintro e w' ⟨bh, b, vw, vb, he, hp, hB⟩
  exact ⟨bh, b, vw, vb, he, ⟨_, hp, Inv.new n h2, rfl, rfl⟩, hB⟩

theorem usedM (h : Hp n₀ bh b vw vb w lim used M) : Calls Tryz.prog 13 #[.pointer (some ⟨bh, 0, none⟩)] w fun e w' => e = .returned (.int .i64 used) ∧ w' = w := by
  obtain ⟨A, h1, h2, h3, rfl⟩ := h; exact used_in h1

theorem wordsM (h : Hp n₀ bh b vw vb w lim used M) : Calls Tryz.prog 49 #[.pointer (some ⟨bh, 0, none⟩)] w fun e w' => e = .returned (.int .i64 lim) ∧ w' = w := by
  obtain ⟨A, h1, h2, rfl, h4⟩ := h; exact words_in h1

theorem lastlt {A : Ar} {M : List Ob} (h : Inv A M) : ∀ i, A.last = some i → i < A.ws.length := by
  intro i hi
  rw [h.last] at hi
  rcases lst_mem M none with e | ⟨o, ho, e⟩
  · rw [e] at hi; cases hi
  · rw [e] at hi; cases hi
    have := h.ins o ho; unfold Ob.end_ at this; omega

theorem allocM (h : Hp n₀ bh b vw vb w lim used M) (k size : Nat) (hk : 3 ≤ k) (hk8 : k ≤ 8) (hs : used + size + 1 ≤ lim) :
    Calls Tryz.prog 53 #[.pointer (some ⟨bh, 0, none⟩), .int .u8 k, .int .i64 size] w fun e w' => e = .returned (.tuple #[.int .i64 used, .int .i64 0]) ∧
      ∃ vw' vb', Hp n₀ bh b vw' vb' w' lim (used + size + 1) (M ++ [⟨used, k, List.replicate size 0⟩]) ∧ Step b vw vb w vw' vb' w' := by
  obtain ⟨A, h1, h2, rfl, rfl⟩ := h
  refine (alloc_ok h1 h2.len (lastlt h2) k size hk hk8 hs).mono ?_
  rintro e w' ⟨he, vw', vb', hp, hS⟩
  exact ⟨he, vw', vb', ⟨_, hp, h2.add k size ⟨hk, hk8⟩ hs, addA_limit _ _ _, addA_len _ _ _⟩, hS⟩

theorem allocM_full (h : Hp n₀ bh b vw vb w lim used M) (k : Nat) (size : Int) (hk : 3 ≤ k) (hk8 : k ≤ 8) (h0 : 0 ≤ size) (hs : (lim : Int) < used + size + 1) :
    Calls Tryz.prog 53 #[.pointer (some ⟨bh, 0, none⟩), .int .u8 k, .int .i64 size] w fun e w' => e = .returned (.tuple #[.int .i64 0, .int .i64 7]) ∧ ∃ q, w' = w.drewN q := by
  obtain ⟨A, h1, h2, rfl, rfl⟩ := h
  exact alloc_full h1 k size hk hk8 h0 hs

theorem allocM_bad (h : Hp n₀ bh b vw vb w lim used M) (k : Nat) (size : Int) (hk : k < 256) (hs : k < 3 ∨ 8 < k ∨ size < 0) :
    Calls Tryz.prog 53 #[.pointer (some ⟨bh, 0, none⟩), .int .u8 k, .int .i64 size] w fun e w' => e = .returned (.tuple #[.int .i64 0, .int .i64 1]) ∧ w' = w := by
  obtain ⟨A, h1, h2, rfl, rfl⟩ := h
  exact alloc_bad h1 k size hk hs

theorem Inv.has {A : Ar} {l r : List Ob} {o : Ob} (h : Inv A (l ++ o :: r)) : hasA A o.at_ = true := by
  unfold hasA
  simp only [Bool.and_eq_true, decide_eq_true_eq]
  exact ⟨by omega, by simpa using (h.mrk o.at_).2 ⟨o, by simp, rfl⟩⟩

theorem readM {l r : List Ob} {o : Ob} (h : Hp n₀ bh b vw vb w lim used (l ++ o :: r)) (i y : Nat) (hy : o.ws[i]? = some y) :
    Calls Tryz.prog 115 #[.pointer (some ⟨bh, 0, none⟩), .int .i64 o.at_, .int .i64 i] w fun e w' => e = .returned (.tuple #[.int .u64 y, .int .i64 0]) ∧ w' = w := by
  obtain ⟨A, h1, h2, rfl, rfl⟩ := h
  have hi : i < o.ws.length := (List.getElem?_eq_some_iff.1 hy).1
  have h20 := h2.lt20 (o := o) (by simp)
  have hc := h2.chn
  rw [Chain_append] at hc
  exact read_ok h1 h2.len o.at_ i _ y h2.has h2.head (by rw [size_headW (by unfold Ob.end_ at h20; omega)]; exact hi) (by rw [hc.2.2.1 i hi]; exact hy)

theorem writeM {l r : List Ob} {o : Ob} (h : Hp n₀ bh b vw vb w lim used (l ++ o :: r)) (i v : Nat) (hi : i < o.ws.length) (hv : v < 18446744073709551616) :
    Calls Tryz.prog 54 #[.pointer (some ⟨bh, 0, none⟩), .int .i64 o.at_, .int .i64 i, .int .u64 v] w fun e w' => e = .returned (.int .i64 0) ∧
      Hp n₀ bh b vw vb w' lim used (l ++ { o with ws := o.ws.set i v } :: r) ∧ Step b vw vb w vw vb w' := by
  obtain ⟨A, h1, h2, rfl, rfl⟩ := h
  have h20 := h2.lt20 (o := o) (by simp)
  have hin := h2.ins o (by simp)
  refine (write_ok h1 h2.len o.at_ i _ v h2.has h2.head (by rw [size_headW (by unfold Ob.end_ at h20; omega)]; exact hi) (by unfold Ob.end_ at hin; omega) hv).mono ?_
  rintro e w' ⟨he, hp, hS⟩
  exact ⟨he, ⟨_, hp, h2.write i v hi, rfl, by simp⟩, hS⟩

theorem sizeM {l r : List Ob} {o : Ob} (h : Hp n₀ bh b vw vb w lim used (l ++ o :: r)) :
    Calls Tryz.prog 98 #[.pointer (some ⟨bh, 0, none⟩), .int .i64 o.at_] w fun e w' => e = .returned (.tuple #[.int .i64 o.ws.length, .int .i64 0]) ∧ w' = w := by
  obtain ⟨A, h1, h2, rfl, rfl⟩ := h
  have h20 := h2.lt20 (o := o) (by simp)
  have := size_ok h1 h2.len o.at_ _ h2.has h2.head
  rw [size_headW (by unfold Ob.end_ at h20; omega)] at this
  exact this

theorem Srt.length_le : ∀ {M : List Ob} {lo n : Nat}, Srt lo M → (∀ o ∈ M, o.end_ ≤ n) → lo ≤ n → lo + M.length ≤ n
  | [], _, _, _, _, h => by simpa using h
  | o :: r, lo, n, ⟨h1, h2⟩, hin, _ => by
    have := Srt.length_le h2 (fun q hq => hin q (by simp [hq])) (hin o (by simp))
    unfold Ob.end_ at this
    simp; omega

theorem split_at {t : Nat} : ∀ {m : List Ob} {lo : Nat}, Srt lo m → ∃ l mid, m = l ++ mid ∧ (∀ q ∈ l, q.at_ < t) ∧ (∀ q ∈ mid, t ≤ q.at_)
  | [], _, _ => ⟨[], [], rfl, by simp, by simp⟩
  | o :: r, lo, h => by
    by_cases ho : o.at_ < t
    · obtain ⟨l, mid, e, h1, h2⟩ := split_at (t := t) h.2
      refine ⟨o :: l, mid, by rw [e]; rfl, ?_, h2⟩
      intro q hq
      rcases List.mem_cons.1 hq with rfl | hq
      · exact ho
      · exact h1 q hq
    · refine ⟨[], o :: r, rfl, by simp, ?_⟩
      intro q hq
      have hlo : Srt o.at_ (o :: r) := ⟨Nat.le_refl _, h.2⟩
      have := Srt.lo hlo q hq
      omega

theorem ends_le {l r : List Ob} {t : Nat} (hs : Srt 0 (l ++ r)) (he : (l.getLast?.map Ob.end_).getD 0 ≤ t) : ∀ q ∈ l, q.end_ ≤ t := by
  rcases snoc_cases l with rfl | ⟨l', z, rfl⟩
  · simp
  · simp at he
    intro q hq
    rcases List.mem_append.1 hq with hq | hq
    · rw [Srt_append] at hs
      have := Srt.apart hs.1 q hq z (by simp)
      unfold Ob.end_ at he; omega
    · simp at hq; subst hq; exact he

/-- Move: to a place that lies behind all of l, and ahead of mid and the object itself. -/
theorem moveM {l mid r : List Ob} {o : Ob} (h : Hp n₀ bh b vw vb w lim used (l ++ mid ++ o :: r)) (t : Nat) (hl : ∀ q ∈ l, q.end_ ≤ t) (hm : ∀ q ∈ mid, t ≤ q.at_) (ht : t ≤ o.at_) :
    Calls Tryz.prog 81 #[.pointer (some ⟨bh, 0, none⟩), .int .i64 o.at_, .int .i64 t] w fun e w' => e = .returned (.int .i64 0) ∧
      Hp n₀ bh b vw vb w' lim used (l ++ { o with at_ := t } :: r) ∧ Step b vw vb w vw vb w' := by
  obtain ⟨A, h1, h2, rfl, rfl⟩ := h
  have h20 := h2.lt20 (o := o) (by simp)
  have hin := h2.ins o (by simp)
  have hla : ∀ q ∈ l, q.at_ < t := fun q hq => by have := hl q hq; unfold Ob.end_ at this; omega
  have hback := h2.back_at
  have hf : (o.at_ :: ((l ++ mid).map Ob.at_).reverse).find? (fun y => decide (y < t)) = lst none l := by
    have := find_split (l := l) (t := t) (pre := o.at_ :: (mid.map Ob.at_).reverse) hla (by
      intro y hy
      rcases List.mem_cons.1 hy with rfl | hy
      · omega
      · rw [List.mem_reverse] at hy; obtain ⟨q, hq, rfl⟩ := List.mem_map.1 hy; have := hm q hq; omega)
    simpa using this
  have hE : YtkombdkhodjckaaGreat.endAt A (lst none l) ≤ t := by
    have h2' : Inv A (l ++ (mid ++ o :: r)) := by simpa using h2
    rw [h2'.endAt]
    exact Srt.end_le hl
  have hp0 := encP_lt h2.encP (by unfold Ob.end_ at h20; omega)
  have hsz := size_headW (o := o) (p := lst none (l ++ mid)) (n := hd none r) (by unfold Ob.end_ at h20; omega)
  have hnx : ∀ j, hd none r = some j → o.end_ ≤ j ∧ j < A.ws.length := by
    intro j hj
    cases r with
    | nil => cases hj
    | cons q' r' =>
      cases hj
      have a1 := h2.ins q' (by simp)
      have a2 := Srt.apart (l := (l ++ mid) ++ [o]) (r := q' :: r') (by simpa using h2.srt) o (by simp) q' (by simp)
      unfold Ob.end_ at *; omega
  have hle := h2.le
  have hlim := h2.lim
  refine (moveH_ok h1 h2.len o.at_ t _ h2.has h2.head ht _ hback (by rw [hf]; exact hE) (by rw [hsz]; exact hin) ?_).mono ?_
  · intro j hj
    rw [bhd_headW (by unfold Ob.end_ at h20; omega) hp0 (fun j hj => by have := hnx j hj; unfold Ob.end_ at this; omega)] at hj
    have := hnx j hj; unfold Ob.end_ at this; omega
  · rintro e w' ⟨he, hp, hS⟩
    rw [hf] at hp
    obtain ⟨i1, i2⟩ := h2.move t hl hm ht
    exact ⟨he, ⟨_, hp, i1, by simp [moveA, tieA_limit], i2⟩, hS⟩

/-- Cut: at a place that lies behind all of l and ahead of r. -/
theorem cutM {l r : List Ob} (h : Hp n₀ bh b vw vb w lim used (l ++ r)) (t : Nat) (hl : ∀ q ∈ l, q.end_ ≤ t) (hr : ∀ q ∈ r, t ≤ q.at_) (ht : t ≤ used) :
    Calls Tryz.prog 38 #[.pointer (some ⟨bh, 0, none⟩), .int .i64 t] w fun e w' => e = .returned (.int .i64 0) ∧
      ∃ vw' vb', Hp n₀ bh b vw' vb' w' lim t l ∧ Step b vw vb w vw' vb' w' := by
  obtain ⟨A, h1, h2, rfl, rfl⟩ := h
  have hla : ∀ q ∈ l, q.at_ < t := fun q hq => by have := hl q hq; unfold Ob.end_ at this; omega
  have hf : (((l ++ r).map Ob.at_).reverse).find? (fun y => decide (y < t)) = lst none l := by
    have := find_split (l := l) (t := t) (pre := (r.map Ob.at_).reverse) hla (by
      intro y hy
      rw [List.mem_reverse] at hy; obtain ⟨q, hq, rfl⟩ := List.mem_map.1 hy; have := hr q hq; omega)
    simpa using this
  have hE : YtkombdkhodjckaaGreat.endAt A (lst none l) ≤ t := by
    rw [h2.endAt]; exact Srt.end_le hl
  refine (cutH_ok h1 h2.len t ht _ h2.back (by rw [hf]; exact hE)).mono ?_
  rintro e w' ⟨he, vw', vb', hp, hS⟩
  rw [hf] at hp
  exact ⟨he, vw', vb', ⟨_, hp, h2.cut t hl hr ht, by simp [cutA, tieA_limit], cutA_len _ _ _ ht⟩, hS⟩

/-- Alloc, whatever is asked. -/
theorem alloc_any (h : Hp n₀ bh b vw vb w lim used M) (k : Nat) (size : Int) (hk : k < 256) :
    Calls Tryz.prog 53 #[.pointer (some ⟨bh, 0, none⟩), .int .u8 k, .int .i64 size] w fun e w' => (∃ v, e = .returned v) ∧
      ∃ vw' vb' used' M', Hp n₀ bh b vw' vb' w' lim used' M' ∧ Step b vw vb w vw' vb' w' := by
  by_cases hb : k < 3 ∨ 8 < k ∨ size < 0
  · refine (allocM_bad h k size hk hb).mono ?_
    rintro e w' ⟨he, rfl⟩
    exact ⟨⟨_, he⟩, vw, vb, used, M, h, Step.refl _ _ _ _⟩
  · obtain ⟨s, rfl⟩ : ∃ s : Nat, size = s := ⟨size.toNat, by omega⟩
    by_cases hf : used + s + 1 ≤ lim
    · refine (allocM h k s (by omega) (by omega) hf).mono ?_
      rintro e w' ⟨he, vw', vb', hp, hS⟩
      exact ⟨⟨_, he⟩, vw', vb', _, _, hp, hS⟩
    · refine (allocM_full h k s (by omega) (by omega) (by omega) (by omega)).mono ?_
      rintro e w' ⟨he, q, rfl⟩
      exact ⟨⟨_, he⟩, vw, vb, used, M, h.drewN q, ⟨rfl, rfl, rfl, Nat.le_refl _, fun _ _ _ _ _ => rfl, fun _ h => .inl h, fun _ h => .inl h⟩⟩

/-- Move, whatever is asked. -/
theorem move_any (h : Hp n₀ bh b vw vb w lim used M) (i t : Int) :
    Calls Tryz.prog 81 #[.pointer (some ⟨bh, 0, none⟩), .int .i64 i, .int .i64 t] w fun e w' => (∃ v, e = .returned v) ∧
      ∃ vw' vb' used' M', Hp n₀ bh b vw' vb' w' lim used' M' ∧ Step b vw vb w vw' vb' w' := by
  obtain ⟨A, h1, h2, h3, h4⟩ := h
  have h : Hp n₀ bh b vw vb w lim used M := ⟨A, h1, h2, h3, h4⟩
  cases hi : hasA A i with
  | false =>
    refine (moveH_none h1 h2.len i t hi).mono ?_
    rintro e w' ⟨he, rfl⟩
    exact ⟨⟨_, he⟩, vw, vb, used, M, h, Step.refl _ _ _ _⟩
  | true =>
    by_cases ht : t < 0 ∨ i < t
    · refine (moveH_out h1 h2.len i t hi ht).mono ?_
      rintro e w' ⟨he, rfl⟩
      exact ⟨⟨_, he⟩, vw, vb, used, M, h, Step.refl _ _ _ _⟩
    · obtain ⟨j, rfl, hj, hjm⟩ := hasA_lt h2.len hi
      obtain ⟨s, rfl⟩ : ∃ s : Nat, t = s := ⟨t.toNat, by omega⟩
      obtain ⟨o, ho, rfl⟩ := (h2.mrk j).1 (by simp [List.getD, hjm])
      obtain ⟨m1, r, rfl⟩ := List.append_of_mem ho
      have hs := h2.srt
      rw [Srt_append] at hs
      obtain ⟨l, mid, rfl, hl, hm⟩ := split_at (t := s) hs.1
      have h2' : Inv A (l ++ (mid ++ o :: r)) := by simpa using h2
      have hf : (o.at_ :: ((l ++ mid).map Ob.at_).reverse).find? (fun y => decide (y < s)) = lst none l := by
        have := find_split (l := l) (t := s) (pre := o.at_ :: (mid.map Ob.at_).reverse) hl (by
          intro y hy
          rcases List.mem_cons.1 hy with rfl | hy
          · omega
          · rw [List.mem_reverse] at hy; obtain ⟨q, hq, rfl⟩ := List.mem_map.1 hy; have := hm q hq; omega)
        simpa using this
      by_cases hE : YtkombdkhodjckaaGreat.endAt A (lst none l) ≤ s
      · rw [h2'.endAt] at hE
        refine (moveM h s (ends_le h2'.srt hE) hm (by omega)).mono ?_
        rintro e w' ⟨he, hp, hS⟩
        exact ⟨⟨_, he⟩, vw, vb, _, _, hp, hS⟩
      · refine (moveH_within h1 h2.len o.at_ s h2.has (by omega) _ h2.back_at (by rw [hf]; omega)).mono ?_
        rintro e w' ⟨he, hB⟩
        exact ⟨⟨_, he⟩, vw, vb, _, _, h.below hB, Step.of_below hB⟩

/-- Cut, whatever is asked. -/
theorem cut_any (h : Hp n₀ bh b vw vb w lim used M) (t : Int) :
    Calls Tryz.prog 38 #[.pointer (some ⟨bh, 0, none⟩), .int .i64 t] w fun e w' => (∃ v, e = .returned v) ∧
      ∃ vw' vb' used' M', Hp n₀ bh b vw' vb' w' lim used' M' ∧ Step b vw vb w vw' vb' w' := by
  obtain ⟨A, h1, h2, h3, h4⟩ := h
  have h : Hp n₀ bh b vw vb w lim used M := ⟨A, h1, h2, h3, h4⟩
  by_cases ht : t < 0 ∨ (A.ws.length : Int) < t
  · refine (cutH_out h1 t ht).mono ?_
    rintro e w' ⟨he, rfl⟩
    exact ⟨⟨_, he⟩, vw, vb, used, M, h, Step.refl _ _ _ _⟩
  · obtain ⟨s, rfl⟩ : ∃ s : Nat, t = s := ⟨t.toNat, by omega⟩
    obtain ⟨l, r, rfl, hl, hr⟩ := split_at (t := s) h2.srt
    have hf : (((l ++ r).map Ob.at_).reverse).find? (fun y => decide (y < s)) = lst none l := by
      have := find_split (l := l) (t := s) (pre := (r.map Ob.at_).reverse) hl (by
        intro y hy
        rw [List.mem_reverse] at hy; obtain ⟨q, hq, rfl⟩ := List.mem_map.1 hy; have := hr q hq; omega)
      simpa using this
    by_cases hE : YtkombdkhodjckaaGreat.endAt A (lst none l) ≤ s
    · rw [h2.endAt] at hE
      refine (cutM h s (ends_le h2.srt hE) hr (by omega)).mono ?_
      rintro e w' ⟨he, vw', vb', hp, hS⟩
      exact ⟨⟨_, he⟩, vw', vb', _, _, hp, hS⟩
    · refine (cutH_within h1 s (by omega) _ h2.back (by rw [hf]; omega)).mono ?_
      rintro e w' ⟨he, hB⟩
      exact ⟨⟨_, he⟩, vw, vb, _, _, h.below hB, Step.of_below hB⟩

end Go.Proofs.YtkombdkhodjckaaGreat
