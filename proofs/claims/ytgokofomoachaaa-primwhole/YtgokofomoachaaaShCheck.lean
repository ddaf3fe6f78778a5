/- show's Check. -/
import Derived.Test.YtgokofomoachaaaShHolds
import Derived.Test.YtgokofomoachaaaShEachW
import Derived.Test.YtgokofomoachaaaShCheckP
import Derived.Test.YtgokofomoachaaaShGreat
namespace Go.Proofs.Ytgokofomoachaaa
set_option linter.unusedVariables false
set_option linter.unusedSimpArgs false
open Go.RowKit

variable {w : World}

/-- What stands before a round. -/
def EachC (w0 : World) (bt bM c : Nat) (p : Option Addr) (S : List Om) (roots : List Vl) (m : Nat) (w : World) : Prop :=
  ∃ (t : Tr) (vt : Value) (done : List Int), IsTo w0.heap.size bt bM (.slice p S.length c) vt (100000 + 100000 * done.length) t w ∧ Way S roots t done ∧ (∀ x ∈ t.todo ++ done, ∀ o, objAt S x = some o → formP o) ∧ (∀ x ∈ done, ∀ o, objAt S x = some o → holdP S o) ∧ Below w0.heap.size w0 w ∧ m = S.length - done.length

theorem hold_of {S : List Om} {roots : List Vl} (h : ∀ x o, Reach S roots x → objAt S x = some o → objP S o) {x : Int} {o : Om} (hx : Reach S roots x) (ho : objAt S x = some o) : holdP S o := by
  obtain ⟨_, h2, h3⟩ := h x o hx ho
  refine ⟨fun v hv => ⟨⟨(h2 v hv).1, fun o' ho' => ?_⟩, (h2 v hv).2⟩, h3⟩
  exact (h v.n o' (Reach.next hx ho hv (by rw [ho']; simp)) (leadO_at ho').1).1

theorem obj_of {S : List Om} {o : Om} (h1 : formP o) (h2 : holdP S o) : objP S o := ⟨h1, fun v hv => ⟨(h2.1 v hv).1.1, (h2.1 v hv).2⟩, h2.2⟩

theorem form_step {S : List Om} {roots : List Vl} {cnt : Int → Nat} {a : List Int} {x : Int} {done : List Int} (hway : Way S roots ⟨cnt, a ++ [x]⟩ done) (hf : ∀ y ∈ (a ++ [x]) ++ done, ∀ o, objAt S y = some o → formP o) {o : Om} (hm : ∀ v ∈ o.l, mayP S v) :
    ∀ y ∈ (meetL S ⟨cnt, a⟩ o.l).todo ++ (x :: done), ∀ o', objAt S y = some o' → formP o' := by
  have hnod := hway.nod
  have h0 : ∀ y, cnt y = 0 → y ∉ a := fun y hy hm => by
    have := (hway.cnt y).2 (by simp [hm])
    exact this hy
  have hna : a.Nodup := by
    rw [List.nodup_append] at hnod
    have := hnod.1
    rw [List.nodup_append] at this
    exact this.1
  obtain ⟨new, h1, -, h3, -, -⟩ := meetL_spec S o.l ⟨cnt, a⟩ h0 hna
  rw [h1]
  intro y hy o' ho'
  rcases List.mem_append.1 hy with hy | hy
  · rcases List.mem_append.1 hy with hy | hy
    · exact hf y (by simp at hy ⊢; simp [hy]) o' ho'
    · obtain ⟨-, v, hv, hl, rfl⟩ := h3 y hy
      cases hle : leadO S v with
      | none => exact (hl hle).elim
      | some o2 =>
        have := (leadO_at hle).1
        rw [ho'] at this
        cases this
        exact (hm v hv).2 o' hle
  · rcases List.mem_cons.1 hy with rfl | hy
    · exact hf y (by simp) o' ho'
    · exact hf y (by simp [hy]) o' ho'

set_option maxRecDepth 20000 in
set_option maxHeartbeats 2000000 in
theorem eachC_in {w0 : World} {bt bM c : Nat} {p : Option Addr} {S : List Om} {v : Vl} (hs : IsSt w0 p S) (hsm : Small S) (hfit : ∀ o ∈ S, ∀ v ∈ o.l, v.fits) (hval : valP S v) (b : Bool) (hb : b = true ↔ checkP S v) (h : ∃ m, EachC w0 bt bM c p S [v] m w) :
    Calls Try.prog 45 #[.pointer (some ⟨bt, 0, none⟩), .func (.func 46) #[.agg #[.pointer (some ⟨bt, 0, none⟩)]] #[]] w fun e w' => e = .returned (.bool b) ∧ Below w0.heap.size w0 w' := by
  have hlen := hsm.len
  have hSm : S.length ≤ maxLen := Nat.le_trans hlen (by unfold maxLen; decide)
  go_enter Try.func45, Try.ntmps45
  go_wp2
  go_loopw [5] (fun k wr => ∃ m, EachC w0 bt bM c p S [v] m wr) (fun k wr => least (EachC w0 bt bM c p S [v]) wr)
  case atStart => exact h
  case round =>
    have hl := least_at hrel
    generalize hm : least (EachC w0 bt bM c p S [v]) wr = m at hl
    obtain ⟨t, vt, done, hto, hway, hform, hhold, hB, rfl⟩ := hl
    cases htd : t.todo with
    | nil =>
      obtain ⟨pv, cv, rfl, -, -, -⟩ := row_form hto.todo
      rw [htd] at hto
      obtain ⟨⟨t0, t1, t2⟩, -⟩ := cell_row3 hto.blk
      obtain ⟨cnt, todo⟩ := t
      simp only at htd
      subst htd
      have hbt' := b_true hb ⟨hval, fun x o hx ho => obj_of (hform x (by simp; exact (hway.end x).2 hx) o ho) (hhold x ((hway.end x).2 hx) o ho)⟩
      subst hbt'
      clear hm hway hb hform hhold
      simp only [List.length_nil] at t2
      go_wp2
      go_ret
      exact ⟨rfl, hB⟩
    | cons y r =>
      obtain ⟨a, x, hax⟩ := list_snoc t.todo (by rw [htd]; simp)
      obtain ⟨cnt, todo⟩ := t
      simp only at hax htd
      subst hax
      clear htd
      obtain ⟨pv, cv, rfl, hcl, hcm, hpg⟩ := row_form hto.todo
      obtain ⟨g, rfl⟩ := hpg (by simp)
      have hle : (a ++ [x]).length = a.length + 1 := by simp
      simp only [hle] at hto hcl
      have hlenW := hway.len
      have hrx := hway.rch x (by simp)
      obtain ⟨hx1, hx2, o, hobj, hk3, hk7⟩ := hrx.num
      obtain ⟨hoS, i, hxi, hiS, hSi⟩ := objAt_mem hobj
      have hfo := hform x (by simp) o hobj
      have hdl : (x :: done).length = done.length + 1 := by simp
      have hway2 := hway.step hobj
      have hdone : done.length < S.length := by simp at hlenW; omega
      obtain ⟨hpo, hSo⟩ := hto.popped
      have hcell : wr.cell? ⟨g, a.length, none⟩ = some (.int .i64 x) := row_cell (by have := hto.todo; simp only [hle] at this; exact this) (by simp) (by omega)
      obtain ⟨⟨t0, t1, t2⟩, ff0, ff1, ff2⟩ := cell_row3 hto.blk
      have hBW : Below w0.heap.size w0 (wr.setCell ⟨bt, 2, none⟩ (.slice (some ⟨g, 0, none⟩) a.length cv)) := hB.trans (hto.below0 hSo)
      obtain ⟨b0, off, hp0, s0, s1, ⟨q, cq, s2, hvq, -⟩, s3, s4⟩ := hs.look hBW hSi
      have hov := hsm.vals o hoS
      have hKo : 100000 + 100000 * done.length + o.l.length ≤ 1099511627776 := by omega
      have ha40 : a.length ≤ 100000 + 100000 * 1048576 := by have := hto.len; simp only [hle] at this; omega
      obtain ⟨bh, hbh⟩ := b_of (holdP S o)
      have hV := holds_in (w := wr.setCell ⟨bt, 2, none⟩ (.slice (some ⟨g, 0, none⟩) a.length cv)) hs hSm hsm.str hBW hpo o cq hvq hKo (by omega) (hfit o hoS) hfo bh hbh
      unfold objV at hV
      have hpos : (0 : Int) < ((a.length + 1 : Nat) : Int) := by omega
      have hii : (i : Int) < (S.length : Int) := by omega
      have hal : (a.length : Int) < ((a.length + 1 : Nat) : Int) := by omega
      have hac : (a.length : Int) ≤ (cv : Int) := by omega
      have hw2 : IntKind.i64.wrap (x - 1) = i := by
        clear hV hto hpo hSo hway hway2 hlenW hm hBW hb hbh
        rw [IntKind.wrap_i64]; omega
      have hw1 : wrap64 (a.length : Int) = a.length := by
        clear hV hto hpo hSo hway hway2 hlenW hm hBW hb hbh
        unfold wrap64; omega
      subst hp0
      cases bh with
      | false =>
        have hbf := b_false hb (fun h => by have := hbh.2 (hold_of h.2 hrx hobj); cases this)
        subst hbf
        have HH : Hid _ := hBW
        clear hb hbh hway2 hm hway hxi hSi hobj hle hdl hlenW hs hvq hBW hpo hSo hdone hx1 hx2 hcl hcm hKo hSm hov hform hhold hrx hfo hfit hval
        go_wp2_with (first
          | (go_at_call 46; refine hV.mono ?_; clear hV; rintro e w3 ⟨rfl, hB3, -⟩))
        go_ret
        exact ⟨rfl, HH.out.trans hB3⟩
      | true =>
        have hho := hbh.1 rfl
        have HH : Hid _ := And.intro hway2 (And.intro hdl (And.intro hBW (And.intro hdone (And.intro (form_step hway hform (o := o) (fun u hu => (hho.1 u hu).1)) (And.intro hho (And.intro hhold hobj))))))
        clear hb hbh hway2 hm hway hxi hSi hobj hle hdl hlenW hs hvq hBW hpo hSo hdone hx1 hx2 hcl hcm hKo hSm hov hform hhold hrx hfo hval hho
        go_wp2_with (first
          | (go_at_call 46; refine hV.mono ?_; clear hV; rintro e w3 ⟨rfl, hB3, hto3'⟩))
        obtain ⟨vt', hto3⟩ := hto3' (by simp)
        obtain ⟨hway2, hdl, hBW, hdone, hfs, hho, hhold, hobj⟩ := HH.out
        have key : EachC w0 bt bM c (some ⟨b0, off, none⟩) S [v] (S.length - (done.length + 1)) w3 := by
          refine ⟨_, vt', x :: done, hto3.more ?_, hway2, hfs, ?_, hBW.trans hB3, by rw [hdl]⟩
          · rw [hdl]
            have := hsm.vals o hoS
            omega
          · intro y hy o' ho'
            rcases List.mem_cons.1 hy with rfl | hy
            · rw [hobj] at ho'; cases ho'; exact hho
            · exact hhold y hy o' ho'
        refine ⟨⟨_, key⟩, ?_⟩
        have := least_le key
        omega

set_option maxRecDepth 20000 in
set_option maxHeartbeats 2000000 in
/-- show's Check. -/
theorem Check_in {p : Option Addr} {S : List Om} (c : Nat) (hs : IsSt w p S) (hsm : Small S) (hfit : ∀ o ∈ S, ∀ v ∈ o.l, v.fits) (v : Vl) (b : Bool) (hb : b = true ↔ checkP S v) :
    Calls Try.prog 15 #[.slice p S.length c, .agg #[.int .u8 v.k, .int .i64 v.n]] w fun e w' => e = .returned (.bool b) ∧ Below w.heap.size w w' := by
  have hSm : S.length ≤ maxLen := Nat.le_trans hsm.len (by unfold maxLen; decide)
  have hv0 := heap_alloc_new w (.cells #[.int .u8 v.k, .int .i64 v.n] 26)
  have hA := below1 w (.cells #[.int .u8 v.k, .int .i64 v.n] 26)
  have hs1 := hs.below hA
  have H1 := tourOf_in (p := p) (n := S.length) (c := c) (w.alloc (.cells #[.int .u8 v.k, .int .i64 v.n] 26))
  obtain ⟨bm, hbm⟩ := b_of (mayP S v)
  have HM := fun (W : World) (bt bM : Nat) (hB : Below (w.alloc (.cells #[.int .u8 v.k, .int .i64 v.n] 26)).heap.size (w.alloc (.cells #[.int .u8 v.k, .int .i64 v.n] 26)) W) (ht : IsTo (w.alloc (.cells #[.int .u8 v.k, .int .i64 v.n] 26)).heap.size bt bM (.slice p S.length c) (.slice none 0 0) 0 ⟨fun _ => 0, []⟩ W) => mayBe_in hs1 hSm hB ht (by omega) v bm hbm
  cases bm with
  | false =>
    have hbf := b_false hb (fun h => by
      have : mayP S v := ⟨h.1, fun o ho => (h.2 v.n o (Reach.root (by simp) (by rw [ho]; simp)) (leadO_at ho).1).1⟩
      have := hbm.2 this; cases this)
    subst hbf
    clear hb hbm
    go_enter Try.func15, Try.ntmps15
    go_wp2_with (first
      | (go_at_call 43; refine H1.mono ?_; clear H1; rintro e w1 ⟨bt, bM, rfl, hto, hB1⟩; have hvl := (hB1.block w.heap.size (by simp)).trans hv0; obtain ⟨v0, v1⟩ := cell_row2 ((Below.heap_alloc w1 (.cells #[.pointer (some ⟨bt, 0, none⟩)] 74) _ (Array.getElem?_eq_some_iff.1 hvl).1).trans hvl); obtain ⟨x0, -⟩ := cell_row1 (heap_alloc_new w1 (.cells #[.pointer (some ⟨bt, 0, none⟩)] 74)); have hB2 := hB1.alloc hB1.size (.cells #[.pointer (some ⟨bt, 0, none⟩)] 74); have hto2 := hto.below (below1 w1 (.cells #[.pointer (some ⟨bt, 0, none⟩)] 74)))
      | (go_at_call 44; refine (HM _ _ _ hB2 hto2).mono ?_; clear HM; rintro e w3 ⟨rfl, vt', hto3, hS3⟩))
    go_ret
    exact ⟨rfl, hA.trans ((hB2.trans (hto2.below0 hS3)).mono hA.size)⟩
  | true =>
    have hmy := hbm.1 rfl
    clear hbm
    have HE := fun (W : World) (bt bM : Nat) h => eachC_in (w := W) (bt := bt) (bM := bM) (c := c) hs1 hsm hfit hmy.1 b hb h
    go_enter Try.func15, Try.ntmps15
    go_wp2_with (first
      | (go_at_call 43; refine H1.mono ?_; clear H1; rintro e w1 ⟨bt, bM, rfl, hto, hB1⟩; have hvl := (hB1.block w.heap.size (by simp)).trans hv0; obtain ⟨v0, v1⟩ := cell_row2 ((Below.heap_alloc w1 (.cells #[.pointer (some ⟨bt, 0, none⟩)] 74) _ (Array.getElem?_eq_some_iff.1 hvl).1).trans hvl); have hcb := heap_alloc_new w1 (.cells #[.pointer (some ⟨bt, 0, none⟩)] 74); obtain ⟨x0, -⟩ := cell_row1 hcb; have hB2 := hB1.alloc hB1.size (.cells #[.pointer (some ⟨bt, 0, none⟩)] 74); have hto2 := hto.below (below1 w1 (.cells #[.pointer (some ⟨bt, 0, none⟩)] 74)))
      | (go_at_call 44; refine (HM _ _ _ hB2 hto2).mono ?_; clear HM; rintro e w3 ⟨rfl, vt', hto3, hS3⟩
         have hbl := hto.lt; have hMl := hto.cnt.lt
         obtain ⟨x1, -⟩ := cell_row1 ((hS3.block w1.heap.size (by simp) (by omega) (by omega) (by simp [Value.ownBlock])).trans hcb)
         have hB3 := hB2.trans (hto2.below0 hS3)
         have hE := HE w3 bt bM ⟨_, _, vt', [], hto3.more (by simp), Way.start S [v], (by
           intro y hy o ho
           obtain ⟨new, h1, -, h3, -, -⟩ := meetL_spec S [v] ⟨fun _ => 0, []⟩ (by simp) (by simp)
           rw [h1] at hy
           simp at hy
           obtain ⟨-, u, hu, hl, rfl⟩ := h3 y hy
           simp at hu; subst hu
           cases hle : leadO S u with
           | none => exact (hl hle).elim
           | some o2 =>
             have := (leadO_at hle).1
             rw [ho] at this
             cases this
             exact hmy.2 o hle), (by simp), hB3, rfl⟩; clear HE)
      | (go_at_call 45; refine hE.mono ?_; clear hE; rintro e w4 ⟨rfl, hB4⟩))
    go_ret
    exact ⟨rfl, hA.trans (hB4.mono hA.size)⟩

end Go.Proofs.Ytgokofomoachaaa
