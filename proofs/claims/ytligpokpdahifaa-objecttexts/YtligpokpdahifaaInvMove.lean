/- Cut and Move, of the objects; plain lists alone. -/
import Derived.Test.YtligpokpdahifaaInvOps
namespace Go.Proofs.Ytligpokpdahifaa

theorem find_lst {l : List Ob} {t : Nat} (hl : ∀ o ∈ l, o.at_ < t) : (l.map Ob.at_).reverse.find? (fun y => decide (y < t)) = lst none l := by
  rcases snoc_cases l with rfl | ⟨l', q, rfl⟩
  · rfl
  · rw [lst_snoc]; simp [hl q (by simp)]

theorem find_split {l : List Ob} {t : Nat} {pre : List Nat} (hl : ∀ o ∈ l, o.at_ < t) (hp : ∀ y ∈ pre, ¬ y < t) : (pre ++ (l.map Ob.at_).reverse).find? (fun y => decide (y < t)) = lst none l := by
  rw [List.find?_append, find_none hp, find_lst hl]; rfl

theorem Inv.head {A : Ar} {l r : List Ob} {o : Ob} (h : Inv A (l ++ o :: r)) : A.ws[o.at_]? = some (headW o (lst none l) (hd none r)) := by
  have := h.chn
  rw [Chain_append] at this
  exact this.2.1

theorem Inv.encP {A : Ar} {l r : List Ob} {o : Ob} (h : Inv A (l ++ o :: r)) : ∀ j, lst none l = some j → j < o.at_ := by
  intro j hj
  rcases lst_mem l none with e | ⟨q, hq, e⟩
  · rw [e] at hj; cases hj
  · rw [e] at hj; cases hj
    have := Srt.apart h.srt q hq o (by simp); unfold Ob.end_ at this; omega

theorem Inv.endAt {A : Ar} {l r : List Ob} (h : Inv A (l ++ r)) : Ytligpokpdahifaa.endAt A (lst none l) = (l.getLast?.map Ob.end_).getD 0 := by
  rcases snoc_cases l with rfl | ⟨l', q, rfl⟩
  · rfl
  · have h' : Inv A (l' ++ q :: r) := by simpa using h
    have := h'.head
    have hq := h'.lt20 (o := q) (by simp)
    rw [lst_snoc]
    simp only [Ytligpokpdahifaa.endAt, getD_of this]
    rw [size_headW (by unfold Ob.end_ at hq; omega)]
    simp [Ob.end_]

theorem cutA_len (A : Ar) (s : Option Nat) (t : Nat) (ht : t ≤ A.ws.length) : (cutA A s t).ws.length = t := by simp [cutA, tieA_len]; omega

theorem Inv.cut {A : Ar} {l r : List Ob} (h : Inv A (l ++ r)) (t : Nat) (hl : ∀ o ∈ l, o.end_ ≤ t) (hr : ∀ o ∈ r, t ≤ o.at_) (ht : t ≤ A.ws.length) : Inv (cutA A (lst none l) t) l := by
  have hlen := cutA_len A (lst none l) t ht
  have hs := h.srt
  rw [Srt_append] at hs
  have hget : ∀ i, i < t → (cutA A (lst none l) t).ws[i]? = (tieA A (lst none l) none).ws[i]? := by
    intro i hi; simp only [cutA]; rw [List.getElem?_take_of_lt hi]
  refine ⟨?_, ?_, ?_, hs.1, ?_, fun o ho => h.knd o (by simp [ho]), ?_, ?_, ?_⟩
  · rw [hlen]; simp [cutA, tieA_bs, h.len]; omega
  · rw [hlen]; simp only [cutA, tieA_limit]; exact Nat.le_trans ht h.le
  · simp only [cutA, tieA_limit]; exact h.lim
  · intro o ho; rw [hlen]; exact hl o ho
  · rcases snoc_cases l with rfl | ⟨l', q, rfl⟩
    · trivial
    · have h' : Inv A (l' ++ q :: r) := by simpa using h
      have hc := h.chn
      rw [Chain_append] at hc
      have hq := hl q (by simp)
      have hq20 := h'.lt20 (o := q) (by simp)
      have hoth : ∀ i, i < t → i ≠ q.at_ → (cutA A (lst none (l' ++ [q])) t).ws[i]? = A.ws[i]? := by
        intro i hi hne
        rw [hget i hi, lst_snoc, tieA_other _ _ _ _ (by simpa using fun e => hne e.symm) (by simp)]
      refine hc.1.relinkN ?_ ?_ ?_
      · intro o ho i h1 h2
        have h3 := Srt.apart hs.1 o ho q (by simp)
        unfold Ob.end_ at hq
        exact hoth i (by omega) (by omega)
      · intro i h1 h2
        exact hoth i (by omega) (by omega)
      · unfold Ob.end_ at hq hq20
        rw [hget _ (by omega), lst_snoc, tieA_x (by simp) h'.head]
        unfold headW
        have hp := encP_lt h'.encP (by omega)
        have hnx : (hd none r).getD 0 < 1048576 := by
          cases r with
          | nil => simp [hd]
          | cons q' r' => have := h'.lt20 (o := q') (by simp); unfold Ob.end_ at this; simp [hd]; omega
        simp only [Option.getD_none]
        rw [setf2 (by omega) hp hnx (by have := (h'.knd q (by simp)).2; omega) (by omega)]
  · intro i
    have key : (cutA A (lst none l) t).bs.getD i false = if i < t then A.bs.getD i false else false := by
      simp only [cutA, tieA_bs, List.getD_eq_getElem?_getD, List.getElem?_take]
      split <;> rfl
    rw [key]
    by_cases hi : i < t
    · rw [if_pos hi, h.mrk i]
      constructor
      · rintro ⟨o, ho, e⟩
        rcases List.mem_append.1 ho with ho | ho
        · exact ⟨o, ho, e⟩
        · have := hr o ho; omega
      · rintro ⟨o, ho, e⟩; exact ⟨o, by simp [ho], e⟩
    · rw [if_neg hi]
      constructor
      · intro e; cases e
      · rintro ⟨o, ho, e⟩
        have := hl o ho; unfold Ob.end_ at this; omega
  · simp only [cutA, tieA_lastN]

theorem slide_get (W : List Nat) (t f n j : Nat) (h1 : t ≤ f) (h2 : f + n ≤ W.length) : (slide W t f n)[j]? = if j < t then W[j]? else if j < t + n then W[f + (j - t)]? else W[j]? := by
  unfold slide
  by_cases a : j < t
  · rw [if_pos a, List.getElem?_append_left (by simp; omega), List.getElem?_take_of_lt a]
  · rw [if_neg a, List.getElem?_append_right (by simp; omega)]
    have e : (W.take t).length = t := by simp; omega
    rw [e]
    by_cases c : j < t + n
    · rw [if_pos c, List.getElem?_append_left (by simp; omega), List.getElem?_take_of_lt (by omega), List.getElem?_drop]
    · rw [if_neg c, List.getElem?_append_right (by simp; omega)]
      have e2 : ((W.drop f).take n).length = n := by simp; omega
      rw [e2, List.getElem?_drop]
      congr 1; omega

theorem clr_get : ∀ (L : List Nat) (bs : List Bool) (i : Nat), (clr bs L).getD i false = if i ∈ L then false else bs.getD i false
  | [], bs, i => by simp [clr]
  | a :: r, bs, i => by
    rw [show clr bs (a :: r) = clr (bs.set a false) r from rfl, clr_get r]
    by_cases h : i ∈ r
    · simp [h]
    · rw [if_neg h]
      simp only [List.getD_eq_getElem?_getD, List.getElem?_set]
      by_cases e : a = i
      · subst e; simp; split <;> rfl
      · rw [if_neg e, if_neg]; simp [h]; exact fun e' => e e'.symm

theorem Inv.move {A : Ar} {l mid r : List Ob} {o : Ob} (h : Inv A (l ++ mid ++ o :: r)) (t : Nat) (hl : ∀ q ∈ l, q.end_ ≤ t) (hm : ∀ q ∈ mid, t ≤ q.at_) (ht : t ≤ o.at_) :
    Inv (moveA A (o.at_ :: ((l ++ mid).map Ob.at_).reverse) (lst none l) o.at_ t (headW o (lst none (l ++ mid)) (hd none r))) (l ++ { o with at_ := t } :: r) ∧
    (moveA A (o.at_ :: ((l ++ mid).map Ob.at_).reverse) (lst none l) o.at_ t (headW o (lst none (l ++ mid)) (hd none r))).ws.length = A.ws.length := by
  have hhead := h.head
  have ho20 := h.lt20 (o := o) (by simp)
  have hoin := h.ins o (by simp)
  have hs := h.srt
  have hp0 := encP_lt h.encP (by unfold Ob.end_ at ho20; omega)
  have har : ∀ q ∈ r, o.end_ ≤ q.at_ := fun q hq => Srt.apart (l := (l ++ mid) ++ [o]) (r := r) (by simpa using hs) o (by simp) q hq
  have hnx : ∀ j, hd none r = some j → o.end_ ≤ j ∧ j < 1048576 := by
    intro j hj
    cases r with
    | nil => cases hj
    | cons q' r' =>
      cases hj
      have := h.lt20 (o := q') (by simp)
      have := har q' (by simp)
      unfold Ob.end_ at *; omega
  have hkd := h.knd o (by simp)
  have hstl : ∀ j, lst none l = some j → j < t := by
    intro j hj
    rcases lst_mem l none with e | ⟨q, hq, e⟩
    · rw [e] at hj; cases hj
    · rw [e] at hj; cases hj
      have := hl q hq; unfold Ob.end_ at this; omega
  have hsz : fld (headW o (lst none (l ++ mid)) (hd none r)) 0 = o.ws.length := size_headW (by unfold Ob.end_ at ho20; omega)
  have hbh : bhd (headW o (lst none (l ++ mid)) (hd none r)) = hd none r := bhd_headW (by unfold Ob.end_ at ho20; omega) hp0 (fun j hj => by have := hnx j hj; unfold Ob.end_ at this; omega)
  have hnx20 : (hd none r).getD 0 < 1048576 := by
    cases e : hd none r with
    | none => simp
    | some j => simpa using (hnx j e).2
  obtain ⟨x, hxx⟩ : ∃ x, headW o (lst none (l ++ mid)) (hd none r) = x := ⟨_, rfl⟩
  obtain ⟨nx, hnn⟩ : ∃ nx, hd none r = nx := ⟨_, rfl⟩
  obtain ⟨st, hst⟩ : ∃ st, lst none l = st := ⟨_, rfl⟩
  have hxe : x = enc o.ws.length (Ytligpokpdahifaa.encP (lst none (l ++ mid))) (nx.getD 0) o.kind := by rw [← hxx, ← hnn]; rfl
  rw [hxx] at hhead hsz hbh ⊢
  rw [hnn] at hbh hnx hnx20
  rw [hst] at hstl ⊢
  -- the marks that go
  have hL : (o.at_ :: ((l ++ mid).map Ob.at_).reverse).takeWhile (fun y => decide (some y ≠ st)) = o.at_ :: (mid.map Ob.at_).reverse := by
    have hK : ∀ y ∈ o.at_ :: (mid.map Ob.at_).reverse, t ≤ y := by
      intro y hy
      rcases List.mem_cons.1 hy with rfl | hy
      · exact ht
      · rw [List.mem_reverse] at hy
        obtain ⟨q, hq, rfl⟩ := List.mem_map.1 hy
        exact hm q hq
    have hKn : ∀ y ∈ o.at_ :: (mid.map Ob.at_).reverse, some y ≠ st := fun y hy e => by have := hK y hy; have := hstl y e.symm; omega
    rcases snoc_cases l with hl' | ⟨l', q, hl'⟩
    · subst hl'
      simp only [List.nil_append]
      exact take_all hKn
    · subst hl'
      rw [lst_snoc] at hst
      exact take_pre (x := q.at_) ⟨(l'.map Ob.at_).reverse, by simp⟩ hKn hst
  unfold moveA
  rw [hL, hsz, hbh]
  obtain ⟨A3, hA3⟩ : ∃ A3 : Ar, { A with ws := slide A.ws t o.at_ (o.ws.length + 1), bs := (clr A.bs (o.at_ :: (mid.map Ob.at_).reverse)).set t true } = A3 := ⟨_, rfl⟩
  have hW3 : A3.ws = slide A.ws t o.at_ (o.ws.length + 1) := by rw [← hA3]
  have hW3l : A3.ws.length = A.ws.length := by rw [hW3]; exact slide_length _ _ _ _ ht (by unfold Ob.end_ at hoin; omega)
  have hget : ∀ j, A3.ws[j]? = if j < t then A.ws[j]? else if j < t + (o.ws.length + 1) then A.ws[o.at_ + (j - t)]? else A.ws[j]? := by
    intro j; rw [hW3]; exact slide_get _ _ _ _ _ ht (by unfold Ob.end_ at hoin; omega)
  have hstt : st ≠ some t := fun e => by have := hstl t e; omega
  have hnxt : nx ≠ some t := fun e => by have := (hnx t e).1; unfold Ob.end_ at this; omega
  dsimp only
  rw [hA3]
  obtain ⟨A5, hA5⟩ : ∃ A5, tieA (tieA A3 st (some t)) (some t) nx = A5 := ⟨_, rfl⟩
  have ha : A5.ws[t]? = some (enc o.ws.length (Ytligpokpdahifaa.encP st) (nx.getD 0) o.kind) := by
    have e3 : A3.ws[t]? = some x := by rw [hget, if_neg (by omega), if_pos (by omega), Nat.sub_self, Nat.add_zero]; exact hhead
    have e4 := tieA_y hstt e3
    have hps := encP_lt (p := st) (i := t) hstl (by unfold Ob.end_ at ho20; omega)
    unfold Ob.end_ at ho20
    rw [hxe, setf1 (by omega) hp0 hnx20 (by omega) hps] at e4
    rw [← hA5, tieA_x hnxt e4, setf2 (by omega) hps hnx20 (by omega) hnx20]
  have hb : ∀ i z, st = some i → A.ws[i]? = some z → A5.ws[i]? = some (setf z 2 t) := by
    intro i z hi hz
    have hit := hstl i hi
    rw [← hA5, tieA_other _ _ _ _ (by simp; omega) (fun e => by have := (hnx i e).1; unfold Ob.end_ at this; omega), hi, tieA_x (z := z) (by simp; omega)]
    · rfl
    · rw [hget, if_pos hit]; exact hz
  have hcn : ∀ j z, nx = some j → A.ws[j]? = some z → A5.ws[j]? = some (setf z 1 (t + 1)) := by
    intro j z hj hz
    have hjj := (hnx j hj).1
    unfold Ob.end_ at hjj
    rw [← hA5, hj]
    refine tieA_y (x := some t) (by simp; omega) ?_
    rw [tieA_other _ _ _ _ (fun e => by have := hstl j e; omega) (by simp; omega), hget, if_neg (by omega), if_neg (by omega)]
    exact hz
  have hoth : ∀ j, j ≠ t → st ≠ some j → nx ≠ some j → A5.ws[j]? = if j < t then A.ws[j]? else if j < t + (o.ws.length + 1) then A.ws[o.at_ + (j - t)]? else A.ws[j]? := by
    intro j h1 h2 h3
    rw [← hA5, tieA_other _ _ _ _ (by simpa using fun e => h1 e.symm) h3, tieA_other _ _ _ _ h2 (by simpa using fun e => h1 e.symm)]
    exact hget j
  have hlen : A5.ws.length = A.ws.length := by rw [← hA5, tieA_len, tieA_len, hW3l]
  have hlimit : A5.limit = A.limit := by rw [← hA5, tieA_limit, tieA_limit, ← hA3]
  have hbs : A5.bs = (clr A.bs (o.at_ :: (mid.map Ob.at_).reverse)).set t true := by rw [← hA5, tieA_bs, tieA_bs, ← hA3]
  rw [hA5]
  refine ⟨⟨?_, ?_, ?_, ?_, ?_, ?_, ?_, ?_, ?_⟩, hlen⟩
  · rw [hbs, hlen]; simp [h.len]
  · rw [hlen, hlimit]; exact h.le
  · rw [hlimit]; exact h.lim
  · rw [List.append_assoc, Srt_append] at hs
    rw [Srt_append]
    refine ⟨hs.1, Srt.end_le hl, ?_⟩
    have h2 := h.srt
    rw [Srt_append] at h2
    refine h2.2.2.mono ?_
    simp [Ob.end_]; omega
  · intro q hq
    rw [hlen]
    rcases List.mem_append.1 hq with hq | hq
    · exact h.ins q (by simp [hq])
    · rcases List.mem_cons.1 hq with rfl | hq
      · simp [Ob.end_] at hoin ⊢; omega
      · exact h.ins q (by simp [hq])
  · intro q hq
    rcases List.mem_append.1 hq with hq | hq
    · exact h.knd q (by simp [hq])
    · rcases List.mem_cons.1 hq with rfl | hq
      · exact hkd
      · exact h.knd q (by simp [hq])
  · have hc := h.chn
    rw [Chain_append, Chain_append] at hc
    obtain ⟨⟨hcl, _⟩, hco, hcw, hcr⟩ := hc
    rw [Chain_append]
    refine ⟨?_, ?_, ?_, ?_⟩
    · -- l
      rcases snoc_cases l with hl' | ⟨l', q, hl'⟩
      · rw [hl']; trivial
      · have hq := hl q (by rw [hl']; simp)
        have hqs : st = some q.at_ := by rw [← hst, hl', lst_snoc]
        have hsl : Srt 0 (l' ++ [q]) := by
          rw [← hl']; rw [List.append_assoc, Srt_append] at hs; exact hs.1
        have hinl : Inv A (l' ++ q :: (mid ++ o :: r)) := by
          have := h; rw [hl'] at this; simpa using this
        have hq20 := hinl.lt20 (o := q) (by simp)
        have hold : ∀ i, i < t → i ≠ q.at_ → A5.ws[i]? = A.ws[i]? := by
          intro i h1 h2
          rw [hoth i (by omega) (by rw [hqs]; simpa using fun e => h2 e.symm) (fun e => by have := (hnx i e).1; unfold Ob.end_ at this; omega), if_pos h1]
        unfold Ob.end_ at hq hq20
        rw [hl'] at hcl ⊢
        refine hcl.relinkN ?_ ?_ ?_
        · intro p hp i h1 h2
          have h3 := Srt.apart hsl p hp q (by simp)
          exact hold i (by omega) (by omega)
        · intro i h1 h2
          unfold Ob.end_ at h2
          exact hold i (by omega) (by omega)
        · rw [hb q.at_ _ hqs hinl.head]
          unfold headW
          have hp := encP_lt hinl.encP (by omega)
          have hnq : (hd none (mid ++ o :: r)).getD 0 < 1048576 := by
            cases mid with
            | nil => simp [hd]; unfold Ob.end_ at ho20; omega
            | cons m1 m2 => have := h.lt20 (o := m1) (by simp); unfold Ob.end_ at this; simp [hd]; omega
          have e0 : (hd (some ({ o with at_ := t } : Ob).at_) ([] : List Ob)) = some t := rfl
          rw [setf2 (by omega) hp hnq (by have := (hinl.knd q (by simp)).2; omega) (by unfold Ob.end_ at ho20; omega)]
          rfl
    · -- the head
      show A5.ws[t]? = some (headW { o with at_ := t } (lst none l) (hd none r))
      rw [ha, hst, hnn]; rfl
    · -- the words
      intro j hj
      show A5.ws[t + 1 + j]? = o.ws[j]?
      have hj' : j < o.ws.length := hj
      rw [hoth _ (by omega) (fun e => by have := hstl _ e; omega) (fun e => by have := (hnx _ e).1; unfold Ob.end_ at this; omega), if_neg (by omega), if_pos (by omega), ← hcw j hj']
      congr 1; omega
    · -- r
      show Chain A5.ws (some t) r none
      cases r with
      | nil => trivial
      | cons q' r' =>
        have hqs : nx = some q'.at_ := by rw [← hnn]; rfl
        have hq'e := har q' (by simp)
        have hinr : Inv A ((l ++ mid ++ [o]) ++ q' :: r') := by simpa using h
        have hq20 := hinr.lt20 (o := q') (by simp)
        have hold : ∀ i, q'.at_ < i → A5.ws[i]? = A.ws[i]? := by
          intro i h1
          unfold Ob.end_ at hq'e
          rw [hoth i (by omega) (fun e => by have := hstl i e; omega) (by rw [hqs]; simp; omega), if_neg (by omega), if_neg (by omega)]
        refine hcr.relinkP ?_ ?_ ?_
        · intro p hp i h1 h2
          have h3 := Srt.apart (l := (l ++ mid ++ [o]) ++ [q']) (r := r') (by simpa using hs) q' (by simp) p hp
          unfold Ob.end_ at h3
          exact hold i (by omega)
        · intro i h1 h2
          exact hold i h1
        · rw [hcn q'.at_ _ hqs hinr.head]
          unfold Ob.end_ at hq20 hq'e ho20
          have hp := encP_lt hinr.encP (by omega)
          unfold headW
          have hnq : (hd none r').getD 0 < 1048576 := by
            cases r' with
            | nil => simp [hd]
            | cons m1 m2 => have := h.lt20 (o := m1) (by simp); unfold Ob.end_ at this; simp [hd]; omega
          rw [setf1 (by omega) hp hnq (by have := (hinr.knd q' (by simp)).2; omega) (by omega)]
          rfl
  · intro i
    have htl : t < (clr A.bs (o.at_ :: (mid.map Ob.at_).reverse)).length := by rw [clr_length, h.len]; unfold Ob.end_ at hoin; omega
    have key : A5.bs.getD i false = if i = t then true else if i ∈ o.at_ :: (mid.map Ob.at_).reverse then false else A.bs.getD i false := by
      rw [hbs, ← clr_get]
      simp only [List.getD_eq_getElem?_getD, List.getElem?_set]
      by_cases e : t = i
      · subst e; rw [if_pos rfl, if_pos htl, if_pos rfl]; rfl
      · rw [if_neg e, if_neg (fun e' => e e'.symm)]
    rw [key]
    by_cases e : i = t
    · rw [if_pos e]
      exact ⟨fun _ => ⟨{ o with at_ := t }, List.mem_append_right _ (by simp), e.symm⟩, fun _ => rfl⟩
    · rw [if_neg e]
      by_cases e2 : i ∈ o.at_ :: (mid.map Ob.at_).reverse
      · rw [if_pos e2]
        constructor
        · intro e; cases e
        · rintro ⟨q, hq, rfl⟩
          have hge : t ≤ q.at_ ∧ q.at_ ≤ o.at_ := by
            rcases List.mem_cons.1 e2 with e3 | e3
            · omega
            · rw [List.mem_reverse] at e3
              obtain ⟨m, hmm, e4⟩ := List.mem_map.1 e3
              have := hm m hmm
              have := Srt.apart (l := l ++ mid) (r := o :: r) hs m (by simp [hmm]) o (by simp)
              unfold Ob.end_ at this; omega
          rcases List.mem_append.1 hq with hq | hq
          · have := hl q hq; unfold Ob.end_ at this; omega
          · rcases List.mem_cons.1 hq with rfl | hq
            · exact absurd rfl e
            · have := har q hq; unfold Ob.end_ at this; omega
      · rw [if_neg e2, h.mrk i]
        constructor
        · rintro ⟨q, hq, rfl⟩
          rcases List.mem_append.1 hq with hq | hq
          · rcases List.mem_append.1 hq with hq | hq
            · exact ⟨q, by simp [hq], rfl⟩
            · exact absurd (by simp; exact .inr ⟨q, hq, rfl⟩) e2
          · rcases List.mem_cons.1 hq with rfl | hq
            · exact absurd (by simp) e2
            · exact ⟨q, by simp [hq], rfl⟩
        · rintro ⟨q, hq, rfl⟩
          rcases List.mem_append.1 hq with hq | hq
          · exact ⟨q, by simp [hq], rfl⟩
          · rcases List.mem_cons.1 hq with rfl | hq
            · exact absurd rfl e
            · exact ⟨q, by simp [hq], rfl⟩
  · rw [lst_append]
    show A5.last = lst (some t) r
    cases r with
    | nil =>
      have hn0 : nx = none := by rw [← hnn]; rfl
      rw [← hA5, hn0, tieA_lastN]; rfl
    | cons q' r' =>
      have hqs : nx = some q'.at_ := by rw [← hnn]; rfl
      rw [← hA5, hqs, tieA_lastS, tieA_lastS, ← hA3]
      show A.last = _
      rw [h.last, lst_append]; rfl

end Go.Proofs.Ytligpokpdahifaa
