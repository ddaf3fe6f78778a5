/- A store with its objects at other numbers: what is said of its values is the same; plainly. -/
import Derived.Test.YtppjahnahomkeaaDoorShTextMath
import Derived.Test.YtppjahnahomkeaaDoorShCheckP
import Derived.Test.YtppjahnahomkeaaDoorShWords
namespace Go.Proofs.YtppjahnahomkeaaDoor
set_option linter.unusedVariables false
set_option linter.unusedSimpArgs false

/-- A value, its number turned. -/
def tv (n : Nat) (v : Vl) : Vl := if 3 ≤ v.k ∧ 1 ≤ v.n ∧ v.n ≤ n then ⟨v.k, n + 1 - v.n⟩ else v

/-- An object, its values turned. -/
def tO (n : Nat) (o : Om) : Om := { o with l := o.l.map (tv n) }

/-- A store, turned. -/
def tS (S : List Om) : List Om := (S.map (tO S.length)).reverse

theorem tv_k (n : Nat) (v : Vl) : (tv n v).k = v.k := by unfold tv; split <;> rfl

theorem tv_low {n : Nat} {v : Vl} (h : v.k < 3) : tv n v = v := by unfold tv; rw [if_neg (by omega)]

theorem tv_in {n : Nat} {v : Vl} (h : 3 ≤ v.k) (h1 : 1 ≤ v.n) (h2 : v.n ≤ n) : tv n v = ⟨v.k, n + 1 - v.n⟩ := by unfold tv; rw [if_pos ⟨h, h1, h2⟩]

theorem tv_out {n : Nat} {v : Vl} (h : ¬ (1 ≤ v.n ∧ v.n ≤ n)) : tv n v = v := by unfold tv; rw [if_neg (fun e => h e.2)]

theorem tv_tv (n : Nat) (v : Vl) : tv n (tv n v) = v := by
  obtain ⟨k, m⟩ := v
  by_cases h : 3 ≤ k ∧ 1 ≤ m ∧ m ≤ n
  · rw [tv_in (v := ⟨k, m⟩) h.1 h.2.1 h.2.2, tv_in h.1 (by dsimp only; omega) (by dsimp only; omega)]
    dsimp only
    congr 1
    omega
  · unfold tv
    dsimp only
    rw [if_neg h]
    dsimp only
    rw [if_neg h]

theorem tv_n {n : Nat} {a b : Vl} (h : a.k = b.k) : (tv n a).n = (tv n b).n ↔ a.n = b.n := by
  constructor
  · intro e
    have : tv n a = tv n b := by
      have h1 := tv_k n a; have h2 := tv_k n b
      cases ha : tv n a; cases hb : tv n b
      rw [ha] at e h1; rw [hb] at e h2
      dsimp only at e h1 h2
      congr 1
      omega
    have := congrArg (tv n) this
    rw [tv_tv, tv_tv] at this
    rw [this]
  · intro e
    have : a = b := by cases a; cases b; dsimp only at h e; rw [h, e]
    rw [this]

theorem tS_len (S : List Om) : (tS S).length = S.length := by simp [tS]

theorem tO_tO (n : Nat) (o : Om) : tO n (tO n o) = o := by
  unfold tO
  have : (tv n ∘ tv n) = id := by funext v; exact tv_tv n v
  simp [List.map_map, this]

theorem tS_get {S : List Om} {i : Nat} (hi : i < S.length) : (tS S)[i]? = (S[S.length - 1 - i]?).map (tO S.length) := by
  unfold tS
  rw [List.getElem?_reverse (by simpa using hi)]
  simp

theorem tS_tS (S : List Om) : tS (tS S) = S := by
  unfold tS
  rw [List.length_reverse, List.length_map, List.map_reverse, List.reverse_reverse, List.map_map]
  have : (tO S.length ∘ tO S.length) = id := by funext v; exact tO_tO _ v
  rw [this, List.map_id]

theorem tS_obj (S : List Om) (x : Int) : objAt (tS S) ((S.length : Int) + 1 - x) = (objAt S x).map (tO S.length) := by
  unfold objAt
  by_cases h1 : 1 ≤ x ∧ x ≤ S.length
  · rw [if_pos (by omega), if_pos h1.1, tS_get (by omega), show S.length - 1 - ((S.length : Int) + 1 - x - 1).toNat = (x - 1).toNat by omega]
  · by_cases h2 : 1 ≤ x
    · rw [if_neg (by omega), if_pos h2, List.getElem?_eq_none (by omega)]; rfl
    · rw [if_pos (by omega), if_neg h2, List.getElem?_eq_none (by rw [tS_len]; omega)]; rfl

theorem tS_lead (S : List Om) (v : Vl) : leadO (tS S) (tv S.length v) = (leadO S v).map (tO S.length) := by
  unfold leadO
  rw [tS_len, tv_k]
  by_cases h : 3 ≤ v.k ∧ v.k ≤ 7 ∧ 1 ≤ v.n ∧ v.n ≤ S.length
  · rw [tv_in h.1 h.2.2.1 h.2.2.2]
    dsimp only
    rw [if_pos h, if_pos ⟨h.1, h.2.1, by omega, by omega⟩, tS_get (by omega), show S.length - 1 - ((S.length : Int) + 1 - v.n - 1).toNat = (v.n - 1).toNat by omega]
    cases S[(v.n - 1).toNat]? with
    | none => rfl
    | some o =>
      dsimp only [Option.map]
      by_cases ho : o.k = v.k
      · rw [if_pos ho, if_pos (show (tO S.length o).k = v.k from ho)]
      · rw [if_neg ho, if_neg (show ¬ (tO S.length o).k = v.k from ho)]
  · rw [if_neg h]
    by_cases h2 : 1 ≤ v.n ∧ v.n ≤ S.length
    · rw [if_neg (fun e => h ⟨e.1, e.2.1, h2⟩)]; rfl
    · rw [tv_out h2, if_neg h]; rfl

theorem tS_lead_none (S : List Om) (v : Vl) : leadO (tS S) (tv S.length v) = none ↔ leadO S v = none := by
  rw [tS_lead]; cases leadO S v <;> simp

theorem lead_turn {S : List Om} {v : Vl} (h : leadO S v ≠ none) : (tv S.length v).n = S.length + 1 - v.n := by
  obtain ⟨o, ho⟩ := Option.ne_none_iff_exists'.1 h
  obtain ⟨h1, h2, -, i, hi, hil, -⟩ := leadO_some ho
  rw [tv_in h1 (by omega) (by omega)]

theorem reach_turn1 {S : List Om} {roots : List Vl} {x : Int} (h : Reach S roots x) : Reach (tS S) (roots.map (tv S.length)) ((S.length : Int) + 1 - x) := by
  refine h (fun y => Reach (tS S) (roots.map (tv S.length)) ((S.length : Int) + 1 - y)) (fun v hv hl => ?_) (fun y o hy ho v hv hl => ?_)
  · have := Reach.root (S := tS S) (roots := roots.map (tv S.length)) (v := tv S.length v) (List.mem_map.2 ⟨v, hv, rfl⟩) (fun e => hl ((tS_lead_none S v).1 e))
    rw [lead_turn hl] at this
    exact this
  · have hob := tS_obj S y
    rw [ho] at hob
    have := Reach.next hy hob (v := tv S.length v) (List.mem_map.2 ⟨v, hv, rfl⟩) (fun e => hl ((tS_lead_none S v).1 e))
    rw [lead_turn hl] at this
    exact this

theorem reach_turn {S : List Om} {roots : List Vl} {x : Int} : Reach (tS S) (roots.map (tv S.length)) x ↔ Reach S roots ((S.length : Int) + 1 - x) := by
  constructor
  · intro h
    have := reach_turn1 h
    rw [tS_tS, tS_len, List.map_map] at this
    have e : (tv S.length ∘ tv S.length) = id := by funext v; exact tv_tv _ v
    rw [e, List.map_id] at this
    exact this
  · intro h
    have := reach_turn1 h
    rw [show (S.length : Int) + 1 - ((S.length : Int) + 1 - x) = x by omega] at this
    exact this

theorem valP_turn {S : List Om} {v : Vl} : valP (tS S) (tv S.length v) ↔ valP S v := by
  unfold valP
  rw [tv_k]
  refine and_congr ?_ (and_congr ?_ ?_)
  · constructor
    · intro h e; have := h e; rw [tv_low (by omega)] at this; exact this
    · intro h e; rw [tv_low (by omega)]; exact h e
  · constructor
    · intro h e; have := h e; rw [tv_low (by omega)] at this; exact this
    · intro h e; rw [tv_low (by omega)]; exact h e
  · have := tS_lead_none S v
    constructor
    · intro h e h2; exact h e (this.2 h2)
    · intro h e h2; exact h e (this.1 h2)

theorem heldP_turn {S : List Om} {l : List Vl} {c : Prop} : heldP (tS S) (l.map (tv S.length)) c ↔ heldP S l c := by
  unfold heldP
  constructor
  · intro h v hv
    have := h (tv S.length v) (List.mem_map.2 ⟨v, hv, rfl⟩)
    rw [valP_turn, tv_k] at this
    exact this
  · intro h v hv
    obtain ⟨u, hu, rfl⟩ := List.mem_map.1 hv
    rw [valP_turn, tv_k]
    exact h u hu

theorem sameP_turn {S : List Om} {a b : Vl} : sameP (tS S) (tv S.length a) (tv S.length b) ↔ sameP S a b := by
  unfold sameP
  rw [tv_k, tv_k]
  refine and_congr_right (fun hk => or_congr Iff.rfl (or_congr (tv_n hk) (and_congr_right (fun _ => ?_))))
  rw [tS_lead, tS_lead]
  cases leadO S a with
  | none => simp
  | some o =>
    cases leadO S b with
    | none => simp
    | some o' => simp [tO]

theorem keysP_turn {S : List Om} {l : List Vl} : keysP (tS S) (l.map (tv S.length)) ↔ keysP S l := by
  unfold keysP
  constructor
  · intro h i j a b ha hb hij hs
    exact h i j (tv S.length a) (tv S.length b) (by rw [List.getElem?_map, ha]; rfl) (by rw [List.getElem?_map, hb]; rfl) hij (sameP_turn.2 hs)
  · intro h i j a b ha hb hij hs
    rw [List.getElem?_map] at ha hb
    obtain ⟨a', ha', rfl⟩ := Option.map_eq_some_iff.1 ha
    obtain ⟨b', hb', rfl⟩ := Option.map_eq_some_iff.1 hb
    exact h i j a' b' ha' hb' hij (sameP_turn.1 hs)

theorem formP_turn {n : Nat} {o : Om} : formP (tO n o) ↔ formP o := by
  unfold formP roomP tO
  simp only [List.length_map]

theorem objP_turn {S : List Om} {o : Om} : objP (tS S) (tO S.length o) ↔ objP S o := by
  unfold objP
  rw [formP_turn]
  exact and_congr_right (fun _ => and_congr heldP_turn (imp_congr Iff.rfl keysP_turn))

theorem checkP_turn {S : List Om} {v : Vl} : checkP (tS S) (tv S.length v) ↔ checkP S v := by
  unfold checkP
  rw [valP_turn]
  refine and_congr_right (fun _ => ?_)
  have e : [tv S.length v] = [v].map (tv S.length) := rfl
  rw [e]
  constructor
  · intro h x o hx ho
    have hob := tS_obj S x
    rw [ho] at hob
    exact objP_turn.1 (h _ _ (reach_turn1 hx) hob)
  · intro h x o hx ho
    have hob := tS_obj (tS S) x
    rw [ho, tS_tS, tS_len] at hob
    have := objP_turn.2 (h _ _ (reach_turn.1 hx) hob)
    rw [tO_tO] at this
    exact this

theorem wordsO_turn (n : Nat) (o : Om) : wordsO (tO n o) = wordsO o := by
  unfold wordsO tO
  simp only [List.length_map]

theorem sumIf_snoc {f : Int → Bool} : ∀ {l : List Nat} {b : Int} {a : Nat}, sumIf f b (l ++ [a]) = sumIf f b l + (if f (b + l.length) then a else 0)
  | [], b, a => by simp [sumIf]
  | x :: l, b, a => by
    simp only [List.cons_append, sumIf, sumIf_snoc (l := l), List.length_cons]
    rw [show b + 1 + (l.length : Int) = b + ((l.length + 1 : Nat) : Int) by omega]
    omega

theorem sumIf_rev {f : Int → Bool} : ∀ {l : List Nat} {b c : Int}, c = b + l.length - 1 → sumIf f b l.reverse = sumIf (fun x => f (b + c - x)) b l
  | [], b, c, _ => rfl
  | a :: l, b, c, h => by
    rw [List.length_cons] at h
    have hc : c = b + l.length := by omega
    rw [List.reverse_cons, sumIf_snoc, sumIf, List.length_reverse, sumIf_rev (l := l) (b := b) (c := b + l.length - 1) rfl, ← hc, show b + c - b = c by omega]
    have : ∀ (l : List Nat) (b c : Int), sumIf (fun x => f (b + c - 1 - x)) b l = sumIf (fun x => f (b + c - x)) (b + 1) l := by
      have key : ∀ (l : List Nat) (d e : Int), sumIf (fun x => f (d - 1 - x)) e l = sumIf (fun x => f (d - x)) (e + 1) l := by
        intro l
        induction l with
        | nil => intro d e; rfl
        | cons y l ih =>
          intro d e
          have e1 : d - 1 - e = d - (e + 1) := by omega
          have e2 := ih d (e + 1)
          show (if f (d - 1 - e) = true then y else 0) + _ = (if f (d - (e + 1)) = true then y else 0) + _
          rw [e1, e2]
      intro l b c
      exact key l (b + c) b
    have h2 := this l b c
    rw [show b + (c - 1) = b + c - 1 by omega, h2]
    omega

open Classical in
theorem words_turn {S : List Om} {roots : List Vl} : wordsR (tS S) (roots.map (tv S.length)) = wordsR S roots := by
  unfold wordsR
  have e : (tS S).map wordsO = (S.map wordsO).reverse := by
    unfold tS
    rw [List.map_reverse, List.map_map]
    congr 1
    exact List.map_congr_left (fun o _ => wordsO_turn _ o)
  rw [e, sumIf_rev (c := S.length) (by rw [List.length_map]; omega)]
  refine sumIf_congr (fun x => ?_)
  rw [decide_eq_decide, reach_turn, show (S.length : Int) + 1 - (1 + (S.length : Int) - x) = x by omega]

theorem pairsOf_map (n : Nat) : ∀ l : List Vl, pairsOf (l.map (tv n)) = (pairsOf l).map (fun x => (tv n x.1, tv n x.2))
  | [] => rfl
  | [a] => by simp [pairsOf, tv_low (n := n) (v := ⟨0, 0⟩) (by decide)]
  | a :: b :: r => by simp [pairsOf, pairsOf_map n r]

theorem rowT_turn {n : Nat} {g g' : Vl → List UInt8} (h : ∀ v, g' (tv n v) = g v) (o : Om) : rowT g' (tO n o) = rowT g o := by
  unfold rowT
  have h1 : itemsT g' (o.l.map (tv n)) = itemsT g o.l := by
    unfold itemsT
    rw [List.zipIdx_map, List.flatMap_map]
    congr 1
    funext x
    simp [h]
  have h2 : pairsT g' (pairsOf (o.l.map (tv n))) = pairsT g (pairsOf o.l) := by
    unfold pairsT
    rw [pairsOf_map, List.zipIdx_map, List.flatMap_map]
    congr 1
    funext x
    simp [h]
  show (if o.k = 4 then [91] ++ (itemsT g' (o.l.map (tv n)) ++ [93]) else [123] ++ (pairsT g' (pairsOf (o.l.map (tv n))) ++ [125])) = _
  rw [h1, h2]

theorem txtW_turn {S : List Om} {R R' : Om → List UInt8} (h : ∀ o, R' (tO S.length o) = R o) (v : Vl) : txtW (tS S) R' (tv S.length v) = txtW S R v := by
  unfold txtW
  rw [tv_k, tS_lead]
  by_cases h0 : v.k = 0
  · rw [if_pos h0, if_pos h0]
  rw [if_neg h0, if_neg h0]
  by_cases h1 : v.k = 1
  · rw [if_pos h1, if_pos h1, tv_low (by omega)]
  rw [if_neg h1, if_neg h1]
  by_cases h2 : v.k = 2
  · rw [if_pos h2, if_pos h2, tv_low (by omega)]
  rw [if_neg h2, if_neg h2]
  cases leadO S v with
  | none => rfl
  | some o =>
    dsimp only [Option.map]
    rw [h o]
    rfl

theorem txtV_turn {S : List Om} : ∀ (f : Nat) (v : Vl), txtV (tS S) f (tv S.length v) = txtV S f v
  | 0, v => txtW_turn (fun _ => rfl) v
  | f + 1, v => txtW_turn (fun o => rowT_turn (txtV_turn f) o) v

end Go.Proofs.YtppjahnahomkeaaDoor
