/- What each call makes of the objects; plain lists alone. -/
import Derived.Test.YtligpokpdahifaaInv
namespace Go.Proofs.Ytligpokpdahifaa

theorem setW_get (A : Ar) (i f v j : Nat) : (setW A i f v).ws[j]? = if i = j ∧ j < A.ws.length then some (setf (A.ws.getD i 0) f v) else A.ws[j]? := by
  simp only [setW, List.getElem?_set]
  by_cases h : i = j
  · subst h
    by_cases h2 : i < A.ws.length
    · simp [h2]
    · simp [h2]
  · simp [h]

theorem getD_of {W : List Nat} {i z : Nat} (h : W[i]? = some z) : W.getD i 0 = z := by simp [List.getD, h]

theorem tieA_other (A : Ar) (x y : Option Nat) (j : Nat) (hx : x ≠ some j) (hy : y ≠ some j) : (tieA A x y).ws[j]? = A.ws[j]? := by
  have hx' : ∀ i, x = some i → i ≠ j := fun i e e' => hx (by rw [e, e'])
  have hy' : ∀ i, y = some i → i ≠ j := fun i e e' => hy (by rw [e, e'])
  cases x with
  | none => cases y with
    | none => rfl
    | some k => simp [tieA, setW_get, hy' k rfl]
  | some i => cases y with
    | none => simp [tieA, setW_get, hx' i rfl]
    | some k => simp [tieA, setW_get, hx' i rfl, hy' k rfl]

theorem tieA_x {A : Ar} {i z : Nat} {y : Option Nat} (hy : y ≠ some i) (hw : A.ws[i]? = some z) : (tieA A (some i) y).ws[i]? = some (setf z 2 (y.getD 0)) := by
  have hlt : i < A.ws.length := (List.getElem?_eq_some_iff.1 hw).1
  cases y with
  | none =>
    show (setW A i 2 0).ws[i]? = _
    rw [setW_get, if_pos ⟨rfl, hlt⟩, getD_of hw]; rfl
  | some k =>
    have hk : k ≠ i := fun e => hy (by rw [e])
    show (setW (setW A i 2 k) k 1 (i + 1)).ws[i]? = _
    rw [setW_get, if_neg (fun e => hk e.1), setW_get, if_pos ⟨rfl, hlt⟩, getD_of hw]; rfl

theorem tieA_y {A : Ar} {j z : Nat} {x : Option Nat} (hx : x ≠ some j) (hw : A.ws[j]? = some z) : (tieA A x (some j)).ws[j]? = some (setf z 1 (encP x)) := by
  have hlt : j < A.ws.length := (List.getElem?_eq_some_iff.1 hw).1
  cases x with
  | none =>
    show (setW A j 1 0).ws[j]? = _
    rw [setW_get, if_pos ⟨rfl, hlt⟩, getD_of hw]; rfl
  | some k =>
    have hk : k ≠ j := fun e => hx (by rw [e])
    have hw' : (setW A k 2 j).ws[j]? = some z := by rw [setW_get, if_neg (fun e => hk e.1)]; exact hw
    show (setW (setW A k 2 j) j 1 (k + 1)).ws[j]? = _
    rw [setW_get, if_pos ⟨rfl, by simpa using hlt⟩, getD_of hw']; rfl

theorem tieA_lastN (A : Ar) (x : Option Nat) : (tieA A x none).last = x := by cases x <;> rfl

theorem tieA_lastS (A : Ar) (x : Option Nat) (j : Nat) : (tieA A x (some j)).last = A.last := by cases x <;> rfl

theorem snoc_cases (M : List Ob) : M = [] ∨ ∃ l q, M = l ++ [q] := by
  rcases List.eq_nil_or_concat M with h | ⟨l, q, h⟩
  · exact .inl h
  · exact .inr ⟨l, q, by simpa using h⟩

theorem Srt.end_le {M : List Ob} {n : Nat} (h : ∀ o ∈ M, o.end_ ≤ n) : (M.getLast?.map Ob.end_).getD 0 ≤ n := by
  cases e : M.getLast? with
  | none => simp
  | some q => simpa using h q (List.mem_of_getLast? e)

theorem Inv.lt20 {A : Ar} {M : List Ob} (h : Inv A M) {o : Ob} (ho : o ∈ M) : o.end_ ≤ 1048576 := Nat.le_trans (h.ins o ho) (Nat.le_trans h.le h.lim)

theorem addA_len (A : Ar) (k size : Nat) : (addA A k size).ws.length = A.ws.length + size + 1 := by
  simp [addA, tieA_len]; omega

theorem addA_limit (A : Ar) (k size : Nat) : (addA A k size).limit = A.limit := by simp [addA, tieA_limit]

theorem Inv.add {A : Ar} {M : List Ob} (h : Inv A M) (k size : Nat) (hk : 3 ≤ k ∧ k ≤ 8) (hs : A.ws.length + size + 1 ≤ A.limit) : Inv (addA A k size) (M ++ [⟨A.ws.length, k, List.replicate size 0⟩]) := by
  have hlim := h.lim
  obtain ⟨n, hn⟩ : ∃ n, A.ws.length = n := ⟨_, rfl⟩
  have hlen := addA_len A k size
  have hlimit := addA_limit A k size
  rw [hn] at hs hlen ⊢
  have hbs : (addA A k size).bs = (A.bs ++ List.replicate (size + 1) false).set n true := by simp [addA, tieA_bs, hn]
  have hlast : (addA A k size).last = some n := by simp [addA, tieA_lastN, hn]
  -- the words
  obtain ⟨A3, hA3⟩ : ∃ A3, setW (setW { A with ws := A.ws ++ List.replicate (size + 1) 0, bs := (A.bs ++ List.replicate (size + 1) false).set n true } n 0 size) n 3 k = A3 := ⟨_, rfl⟩
  have h3n : A3.ws[n]? = some (enc size 0 0 k) := by
    rw [← hA3, setW_get]
    have e1 : (setW { A with ws := A.ws ++ List.replicate (size + 1) 0, bs := (A.bs ++ List.replicate (size + 1) false).set n true } n 0 size).ws[n]? = some (enc size 0 0 0) := by
      rw [setW_get, if_pos ⟨rfl, by simp [hn]⟩]
      have e0 : (A.ws ++ List.replicate (size + 1) 0).getD n 0 = 0 := by
        rw [List.getD_eq_getElem?_getD, List.getElem?_append_right (by omega)]; simp [hn]
      dsimp only
      rw [e0]
      exact congrArg some (setf0 (s := 0) (a := 0) (b := 0) (k := 0) (by omega) (by omega) (by omega) (by omega) (by omega))
    rw [if_pos ⟨rfl, by simp [hn]⟩, getD_of e1, setf3 (by omega) (by omega) (by omega) (by omega) (by omega)]
  have h3o : ∀ j, j ≠ n → A3.ws[j]? = (A.ws ++ List.replicate (size + 1) 0)[j]? := by
    intro j hj
    rw [← hA3, setW_get, if_neg (by omega), setW_get, if_neg (by omega)]
  have hlastlt : ∀ i, A.last = some i → i < n ∧ ∃ l q, M = l ++ [q] ∧ q.at_ = i := by
    intro i hi
    rcases snoc_cases M with hM | ⟨l, q, hM⟩
    · rw [h.last, hM] at hi; cases hi
    · rw [h.last, hM, lst_snoc] at hi
      cases hi
      have := h.ins q (by rw [hM]; simp)
      unfold Ob.end_ at this
      exact ⟨by omega, l, q, hM, rfl⟩
  have hne : A.last ≠ some n := fun e => by have := (hlastlt n e).1; omega
  have hA5 : addA A k size = tieA (tieA A3 A.last (some n)) (some n) none := by
    rw [← hA3]; simp [addA, hn]
  have h5n : (addA A k size).ws[n]? = some (enc size (encP A.last) 0 k) := by
    have e1 := tieA_y hne h3n
    have hp : encP A.last < 1048576 := encP_lt (i := n) (fun j hj => (hlastlt j hj).1) (by omega)
    rw [setf1 (by omega) (by omega) (by omega) (by omega) hp] at e1
    rw [hA5, tieA_x (by simp) e1]
    simp only [Option.getD_none]
    rw [setf2 (by omega) hp (by omega) (by omega) (by omega)]
  have h5o : ∀ j, j ≠ n → A.last ≠ some j → (addA A k size).ws[j]? = (A.ws ++ List.replicate (size + 1) 0)[j]? := by
    intro j hj hl
    rw [hA5, tieA_other _ _ _ _ (by simpa using fun e => hj e.symm) (by simp), tieA_other _ _ _ _ hl (by simpa using fun e => hj e.symm), h3o j hj]
  have h5l : ∀ i z, A.last = some i → A.ws[i]? = some z → (addA A k size).ws[i]? = some (setf z 2 n) := by
    intro i z hi hz
    have hin := (hlastlt i hi).1
    rw [hA5, tieA_other _ _ _ _ (by simpa using fun e : n = i => by omega) (by simp), hi, tieA_x (z := z) (by simpa using fun e : n = i => by omega)]
    · rfl
    · rw [h3o i (by omega), List.getElem?_append_left (by omega)]; exact hz
  have hold : ∀ j, j < n → A.last ≠ some j → (addA A k size).ws[j]? = A.ws[j]? := by
    intro j hj hl
    rw [h5o j (by omega) hl, List.getElem?_append_left (by omega)]
  have hins : ∀ o ∈ M, o.end_ ≤ n := fun o ho => by rw [← hn]; exact h.ins o ho
  have hnew : Chain (addA A k size).ws (lst none M) [⟨n, k, List.replicate size 0⟩] none := by
    refine ⟨?_, ?_, trivial⟩
    · show (addA A k size).ws[n]? = _
      rw [h5n]; unfold headW; rw [← h.last]; simp [hd]
    · intro j hj
      simp only [List.length_replicate] at hj
      show (addA A k size).ws[n + 1 + j]? = _
      rw [h5o _ (by omega) (fun e => by have := (hlastlt _ e).1; omega), List.getElem?_append_right (by omega), List.getElem?_replicate, List.getElem?_replicate, if_pos (by omega), if_pos hj]
  refine ⟨?_, ?_, ?_, ?_, ?_, ?_, ?_, ?_, ?_⟩
  · rw [hbs, hlen]; simp [h.len, hn]; omega
  · rw [hlen, hlimit]; omega
  · rw [hlimit]; exact hlim
  · rw [Srt_append]
    exact ⟨h.srt, Srt.end_le hins, trivial⟩
  · intro o ho
    rw [hlen]
    rcases List.mem_append.1 ho with ho | ho
    · have := hins o ho; omega
    · simp at ho; subst ho; simp [Ob.end_]; omega
  · intro o ho
    rcases List.mem_append.1 ho with ho | ho
    · exact h.knd o ho
    · simp at ho; subst ho; exact hk
  · rw [Chain_append]
    refine ⟨?_, hnew⟩
    show Chain _ none M (some n)
    rcases snoc_cases M with hM | ⟨l, q, hM⟩
    · rw [hM]; trivial
    · have hl : A.last = some q.at_ := by rw [h.last, hM, lst_snoc]
      rw [hM] at hins
      have hc := h.chn
      rw [hM] at hc ⊢
      have hs := h.srt
      rw [hM] at hs
      have hq := hins q (by simp)
      refine hc.relinkN ?_ ?_ ?_
      · intro o ho i h1 h2
        have h3 := Srt.apart hs o ho q (by simp)
        have h4 := hins o (by simp [ho])
        refine hold i (by omega) ?_
        rw [hl]; simp; omega
      · intro i h1 h2
        refine hold i (by omega) ?_
        rw [hl]; simp; omega
      · rw [Chain_append] at hc
        rw [h5l _ _ hl hc.2.1]
        have hq20 := h.lt20 (o := q) (by rw [hM]; simp)
        have hpl : encP (lst none l) < 1048576 := by
          refine encP_lt (i := q.at_) (fun j hj => ?_) (by unfold Ob.end_ at hq20; omega)
          rcases lst_mem l none with e | ⟨o, ho, e⟩
          · rw [e] at hj; cases hj
          · rw [e] at hj; cases hj
            have := Srt.apart hs o ho q (by simp); unfold Ob.end_ at this; omega
        unfold headW
        simp only [hd, Option.getD_none, Option.getD_some]
        rw [setf2 (by unfold Ob.end_ at hq20; omega) hpl (by omega) (by have := (h.knd q (by rw [hM]; simp)).2; omega) (by omega)]
  · intro i
    rw [hbs]
    have hbl : A.bs.length = n := by rw [h.len, hn]
    have key : ((A.bs ++ List.replicate (size + 1) false).set n true).getD i false = if i = n then true else A.bs.getD i false := by
      simp only [List.getD_eq_getElem?_getD, List.getElem?_set]
      by_cases e : n = i
      · subst e; simp [hbl]
      · rw [if_neg e, if_neg (fun e' => e e'.symm)]
        by_cases e2 : i < n
        · rw [List.getElem?_append_left (by omega)]
        · rw [List.getElem?_append_right (by omega), List.getElem?_eq_none (l := A.bs) (by omega), List.getElem?_replicate]
          split <;> rfl
    rw [key]
    by_cases e : i = n
    · subst e; simp
    · rw [if_neg e, h.mrk i]
      constructor
      · rintro ⟨o, ho, e'⟩; exact ⟨o, by simp [ho], e'⟩
      · rintro ⟨o, ho, e'⟩
        rcases List.mem_append.1 ho with ho | ho
        · exact ⟨o, ho, e'⟩
        · simp at ho; subst ho; exact absurd e'.symm e
  · rw [hlast, lst_snoc]

theorem Inv.write {A : Ar} {l r : List Ob} {o : Ob} (h : Inv A (l ++ o :: r)) (i v : Nat) (hi : i < o.ws.length) : Inv { A with ws := A.ws.set (o.at_ + 1 + i) v } (l ++ { o with ws := o.ws.set i v } :: r) := by
  have hs := h.srt
  have hend : ({ o with ws := o.ws.set i v } : Ob).end_ = o.end_ := by simp [Ob.end_]
  have hoe := h.ins o (by simp)
  have hget : ∀ j, j ≠ o.at_ + 1 + i → (A.ws.set (o.at_ + 1 + i) v)[j]? = A.ws[j]? := by
    intro j hj; rw [List.getElem?_set_ne (fun e => hj e.symm)]
  have hal := fun q hq => Srt.apart hs q hq o (by simp)
  have har : ∀ q ∈ r, o.end_ ≤ q.at_ := fun q hq => Srt.apart (l := l ++ [o]) (r := r) (by simpa using hs) o (by simp) q hq
  refine ⟨by simpa using h.len, by simpa using h.le, h.lim, ?_, ?_, ?_, ?_, ?_, ?_⟩
  · rw [Srt_append] at hs ⊢
    refine ⟨hs.1, hs.2.1, ?_⟩
    rw [hend]; exact hs.2.2
  · intro q hq
    simp only [List.length_set]
    rcases List.mem_append.1 hq with hq | hq
    · exact h.ins q (by simp [hq])
    · rcases List.mem_cons.1 hq with rfl | hq
      · rw [hend]; exact hoe
      · exact h.ins q (by simp [hq])
  · intro q hq
    rcases List.mem_append.1 hq with hq | hq
    · exact h.knd q (by simp [hq])
    · rcases List.mem_cons.1 hq with rfl | hq
      · exact h.knd o (by simp)
      · exact h.knd q (by simp [hq])
  · have hc := h.chn
    rw [Chain_append] at hc ⊢
    refine ⟨?_, ?_, ?_, ?_⟩
    · exact hc.1.agree (fun q hq j h1 h2 => hget j (by have := hal q hq; omega))
    · show (A.ws.set _ v)[o.at_]? = some (headW { o with ws := o.ws.set i v } _ _)
      rw [hget _ (by omega), hc.2.1]; simp [headW]
    · intro j hj
      simp only [List.length_set] at hj
      show (A.ws.set _ v)[o.at_ + 1 + j]? = (o.ws.set i v)[j]?
      by_cases e : i = j
      · subst e
        rw [List.getElem?_set_self (by unfold Ob.end_ at hoe; omega), List.getElem?_set_self hi]
      · rw [hget _ (by omega), List.getElem?_set_ne e]; exact hc.2.2.1 j hj
    · exact hc.2.2.2.agree (fun q hq j h1 h2 => hget j (by have := har q hq; unfold Ob.end_ at this; omega))
  · intro j
    rw [h.mrk j]
    constructor
    · rintro ⟨q, hq, e⟩
      rcases List.mem_append.1 hq with hq | hq
      · exact ⟨q, by simp [hq], e⟩
      · rcases List.mem_cons.1 hq with rfl | hq
        · exact ⟨{ q with ws := q.ws.set i v }, List.mem_append_right _ (by simp), e⟩
        · exact ⟨q, by simp [hq], e⟩
    · rintro ⟨q, hq, e⟩
      rcases List.mem_append.1 hq with hq | hq
      · exact ⟨q, by simp [hq], e⟩
      · rcases List.mem_cons.1 hq with rfl | hq
        · exact ⟨o, by simp, e⟩
        · exact ⟨q, by simp [hq], e⟩
  · show A.last = _
    rw [h.last, lst_append, lst_append]; rfl

end Go.Proofs.Ytligpokpdahifaa
