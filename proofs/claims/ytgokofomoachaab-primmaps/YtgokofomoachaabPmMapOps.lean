/- prim: a map of whole numbers: Map of nothing, Put, Get, Len. -/
import Derived.Test.YtgokofomoachaabPmMapMath
import Derived.Test.YtgokofomoachaabPmWhole
namespace Go.Proofs.Ytgokofomoachaab
set_option linter.unusedVariables false
set_option linter.unusedSimpArgs false
open Go.RowKit

variable {w : World}

/-- A map of whole numbers that may be. -/
structure MapOk (m : List (Int × Int)) (r : Int) : Prop where
  len : m.length ≤ 1000
  dup : (mkeys m).Nodup
  room : ((mflat m).length : Int) ≤ r
  top : r ≤ 2 * ((mflat m).length : Int) + 8
  fit : ∀ q ∈ m, I6 q.1 ∧ I6 q.2

theorem mflat_fit {m : List (Int × Int)} (h : ∀ q ∈ m, I6 q.1 ∧ I6 q.2) : ∀ u ∈ mflat m, u.fits := by
  induction m with
  | nil => intro u hu; simp [mflat] at hu
  | cons q r ih =>
    obtain ⟨k, v⟩ := q
    intro u hu
    have h0 := h (k, v) (by simp)
    simp [mflat] at hu
    rcases hu with rfl | rfl | hu
    · exact ⟨by simp, h0.1⟩
    · exact ⟨by simp, h0.2⟩
    · exact ih (fun q hq => h q (by simp [hq])) u hu

theorem MapOk.ask {m : List (Int × Int)} {r : Int} (h : MapOk m r) {W : World} {p : Option Addr} (hs : IsSt W p [mapO m r]) : Ask W p [mapO m r] := by
  have hl := h.len
  have hf := mflat_len m
  have h1 := h.room
  have h2 := h.top
  refine ⟨hs, by simp, ?_, ?_, ?_⟩
  · intro o ho; simp at ho; subst ho; show (mflat m).length ≤ 100000; omega
  · intro o ho; simp at ho; subst ho; show (0 : Nat) ≤ 1048576; omega
  · intro o ho; simp at ho; subst ho
    exact ⟨by simp [mapO], mflat_fit h.fit, ⟨by show (-9223372036854775808 : Int) ≤ r; omega, by show r ≤ 9223372036854775807; omega⟩, by simp [mapO], by simp [mapO]⟩

theorem MapOk.check {m : List (Int × Int)} {r : Int} (h : MapOk m r) : checkP [mapO m r] ⟨5, 1⟩ := by
  have hl := h.len
  have hf := mflat_len m
  have h2 := h.top
  exact check_map (by omega) r h.room (by omega) h.dup

theorem map_lead (m : List (Int × Int)) (r : Int) : leadO [mapO m r] ⟨5, 1⟩ = some (mapO m r) := by unfold leadO; simp [mapO]

theorem mput_fit {m : List (Int × Int)} (h : ∀ q ∈ m, I6 q.1 ∧ I6 q.2) {x y : Int} (hx : I6 x) (hy : I6 y) : ∀ q ∈ mput m x y, I6 q.1 ∧ I6 q.2 := by
  induction m with
  | nil => intro q hq; simp [mput] at hq; subst hq; exact ⟨hx, hy⟩
  | cons q0 r ih =>
    obtain ⟨k, v⟩ := q0
    intro q hq
    simp only [mput] at hq
    split at hq
    · rcases List.mem_cons.1 hq with rfl | hq
      · exact ⟨(h (k, v) (by simp)).1, hy⟩
      · exact h q (by simp [hq])
    · rcases List.mem_cons.1 hq with rfl | hq
      · exact h (k, v) (by simp)
      · exact ih (fun q hq => h q (by simp [hq])) q hq

/-- The room behind a Put. -/
def mroom (m : List (Int × Int)) (r : Int) (x : Int) : Int := if (midx m x).isSome then r else if r < ((mflat m).length : Int) + 2 then max 8 (2 * r) else r

theorem MapOk.put {m : List (Int × Int)} {r : Int} (h : MapOk m r) {x y : Int} (hx : I6 x) (hy : I6 y) (hl : m.length < 1000) : MapOk (mput m x y) (mroom m r x) := by
  have h1 := h.room
  have h2 := h.top
  have hf := mflat_len m
  have hf2 := mflat_len (mput m x y)
  have hlen := mput_len m x y
  have hmg := midx_get m x
  unfold mroom
  by_cases hs : (mget m x).isSome = true
  · rw [if_pos hs] at hlen
    rw [if_pos (by rw [hmg]; exact hs)]
    refine ⟨by omega, mput_nodup h.dup x y, by omega, by omega, mput_fit h.fit hx hy⟩
  · rw [if_neg hs] at hlen
    rw [if_neg (by rw [hmg]; exact hs)]
    refine ⟨by omega, mput_nodup h.dup x y, ?_, ?_, mput_fit h.fit hx hy⟩
    · split <;> omega
    · split <;> omega

/-- What Put of a pair of whole numbers comes to. -/
theorem putPair_ints {m : List (Int × Int)} {r : Int} (h : MapOk m r) (x y : Int) : ∃ n : Int, putPairP [mapO m r] 0 (mapO m r) ⟨2, x⟩ ⟨2, y⟩ (midx m x) = ⟨[mapO (mput m x y) (mroom m r x)], ⟨0, 0⟩, ⟨#[]⟩, n⟩ := by
  have hl := h.len
  have hf := mflat_len m
  have hp := mflat_put m x y
  unfold putPairP mroom
  cases hm : midx m x with
  | some j =>
    rw [hm] at hp
    simp only at hp
    refine ⟨0, ?_⟩
    simp only [Option.isSome_some, if_true]
    rw [show mapO (mput m x y) r = { mapO m r with l := (mapO m r).l.set (j + 1) ⟨2, y⟩ } by simp [mapO, hp]]
    rfl
  | none =>
    rw [hm] at hp
    simp only at hp
    simp only [Option.isSome_none, Bool.false_eq_true, if_false]
    rw [if_neg (by show ¬ (mflat m).length = 131072; omega)]
    unfold addedP
    by_cases hr : r < ((mflat m).length : Int) + 2
    · refine ⟨1 + 2 * max 8 (2 * r), ?_⟩
      rw [if_pos (by show r < ((mflat m).length : Int) + 2; exact hr), if_pos hr]
      simp [mapO, hp]
    · refine ⟨0, ?_⟩
      rw [if_neg (by show ¬ r < ((mflat m).length : Int) + 2; exact hr), if_neg hr]
      simp [mapO, hp]

theorem may_map {m : List (Int × Int)} {r : Int} (h : MapOk m r) (l : List Int) : mayL [mapO m r] (⟨5, 1⟩ :: l.map (fun n => ⟨2, n⟩)) := by
  intro v hv
  rcases List.mem_cons.1 hv with rfl | hv
  · exact h.check
  · obtain ⟨n, -, rfl⟩ := List.mem_map.1 hv
    exact fine_int _ _

theorem mapPut_in {p : Option Addr} {m : List (Int × Int)} {r : Int} (h : MapOk m r) (hs : IsSt w p [mapO m r]) (c : Nat) (x y : Int) : ∃ n : Int,
    Calls Try.prog 6 #[.slice p 1 c, .agg #[.int .u8 5, .int .i64 1], .agg #[.int .u8 2, .int .i64 x], .agg #[.int .u8 2, .int .i64 y]] w (DidR w [mapO (mput m x y) (mroom m r x)] ⟨0, 0⟩ ⟨#[]⟩ n) := by
  obtain ⟨n, hn⟩ := putPair_ints h x y
  refine ⟨n, ?_⟩
  have := Put_in (h.ask hs) c ⟨5, 1⟩ ⟨2, x⟩ ⟨2, y⟩ (putPairP [mapO m r] 0 (mapO m r) ⟨2, x⟩ ⟨2, y⟩ (midx m x)) (.inr ⟨may_map h [x, y], 0, mapO m r, midx m x, fun _ => ⟨map_lead m r, by simp⟩, fun _ => keyAt_ints _ m x, by simp [putP]⟩)
  rw [hn] at this
  exact this

theorem mapGet_in {p : Option Addr} {m : List (Int × Int)} {r : Int} (h : MapOk m r) (hs : IsSt w p [mapO m r]) (c : Nat) (x : Int) (v : Int) (hv : mget m x = some v) :
    Calls Try.prog 9 #[.slice p 1 c, .agg #[.int .u8 5, .int .i64 1], .agg #[.int .u8 2, .int .i64 x]] w (DidR w [mapO m r] ⟨2, v⟩ ⟨#[]⟩ 0) := by
  have := Get_in (h.ask hs) c ⟨5, 1⟩ ⟨2, x⟩ (getP [mapO m r] ⟨5, 1⟩ ⟨2, x⟩ (mapO m r) (midx m x)) (.inr ⟨may_map h [x], mapO m r, midx m x, fun _ => map_lead m r, fun _ => keyAt_ints _ m x, rfl⟩)
  have e : getP [mapO m r] ⟨5, 1⟩ ⟨2, x⟩ (mapO m r) (midx m x) = ⟨[mapO m r], ⟨2, v⟩, ⟨#[]⟩, 0⟩ := by
    unfold getP
    rw [if_pos ⟨rfl, by simp⟩]
    show (⟨[mapO m r], mval (mflat m) (midx m x), ⟨#[]⟩, 0⟩ : Dv) = _
    rw [mval_get, hv]
  rw [e] at this
  exact this

theorem mapLen_in {p : Option Addr} {m : List (Int × Int)} {r : Int} (h : MapOk m r) (hs : IsSt w p [mapO m r]) (c : Nat) :
    Calls Try.prog 8 #[.slice p 1 c, .agg #[.int .u8 5, .int .i64 1]] w (DidR w [mapO m r] ⟨2, m.length⟩ ⟨#[]⟩ 0) := by
  have e : ((mapO m r).l.length : Int) / 2 = m.length := by
    have := mflat_len m
    show ((mflat m).length : Int) / 2 = _
    omega
  have := pLen_in (h.ask hs) c ⟨5, 1⟩ (D := ⟨[mapO m r], ⟨2, m.length⟩, ⟨#[]⟩, 0⟩) (.inr ⟨may_map h [], wholeD (m.length : Int), DoneR.old (d := wholeD (m.length : Int)) rfl rfl, fun W hB => (Len_5 ((h.ask hs).below hB) c 1 (map_lead m r) (by rw [e])).mono (fun _ _ hh => hh.V)⟩)
  exact this

set_option maxRecDepth 20000 in
set_option maxHeartbeats 1000000 in
theorem once_nil (p : Option Addr) (n c : Nat) (w : World) : Calls Try.prog 31 #[.slice p n c, .slice none 0 0] w fun e w' => e = .returned (.slice none 0 0) ∧ Below w.heap.size w w' := by
  have hmm := @run_makeMap Try.prog
  go_enter Try.func31, Try.ntmps31
  go_wp2
  go_loopw [5, 7] (fun s5 s7 wr => s5 = .slice none 0 0 ∧ s7 = .int .i64 0 ∧ Below w.heap.size w wr) (fun _ _ _ => 0)
  case atStart => exact ⟨rfl, rfl, below1 _ _⟩
  case round =>
    obtain ⟨rfl, rfl, hB⟩ := hrel
    go_wp2
    go_ret
    exact ⟨rfl, hB⟩

set_option maxRecDepth 20000 in
set_option maxHeartbeats 2000000 in
theorem Map_nil (w : World) : Calls Try.prog 15 #[.slice none 0 0, .slice none 0 0] w (DeedV w (makesD (mapO [] 0))) := by
  have hB := below1 w (.cells #[.string ⟨#[]⟩, .int .i64 0, .int .u8 0, .int .i64 0, .int .u8 0, .string ⟨#[]⟩, .slice none 0 0, .int .i64 0, .int .i64 0, .int .i64 0, .int .i64 0, .slice none 0 0, .int .i64 0] 50)
  have hb := heap_alloc_new w (.cells #[.string ⟨#[]⟩, .int .i64 0, .int .u8 0, .int .i64 0, .int .u8 0, .string ⟨#[]⟩, .slice none 0 0, .int .i64 0, .int .i64 0, .int .i64 0, .int .i64 0, .slice none 0 0, .int .i64 0] 50)
  have HA := anyCell_in (w := w.alloc (.cells #[.string ⟨#[]⟩, .int .i64 0, .int .u8 0, .int .i64 0, .int .u8 0, .string ⟨#[]⟩, .slice none 0 0, .int .i64 0, .int .i64 0, .int .i64 0, .int .i64 0, .slice none 0 0, .int .i64 0] 50)) (q := none) (l := []) 0 (fun j v hj => by simp at hj) (by simp) false (by simp)
  simp only [List.length_nil] at HA
  have HE := fun (W : World) => once_nil none 0 0 W
  have HK := fun (W : World) => mk_in (w := W) (mapO [] 0) (q := none) 0 (fun j v hj => by simp [mapO, mflat] at hj) (fun _ => rfl) (by simp [mapO, mflat]) (by show (0 : Nat) ≤ 1048576; omega) (by simp [mapO]) (by simp [mapO]) (by simp [mapO])
  simp only [show (mapO [] 0).k = 5 from rfl, show (mapO [] 0).s = ⟨#[]⟩ from rfl, show (mapO [] 0).l = [] from rfl, show (mapO [] 0).room = 0 from rfl, show (mapO [] 0).fn = 0 from rfl, show ((5 : Nat) : Int) = 5 from rfl, List.length_nil, show (wordsO (mapO [] 0) : Nat) = 3 from rfl, show ((3 : Nat) : Int) = 3 from rfl] at HK
  go_enter Try.func15, Try.ntmps15
  go_wp2_with (first
    | (go_at_call 29; (with_reducible refine HA.mono ?_); clear HA; rintro e w0 ⟨rfl, hB0⟩; have hBw := hB.trans (hB0.mono hB.size); have hb' := (hB0.block _ (Array.getElem?_eq_some_iff.1 hb).1).trans hb; have HE0 := HE w0)
    | (go_at_call 31; (with_reducible refine HE0.mono ?_); clear HE0; rintro e w2 ⟨rfl, hB2⟩; have hBw2 := hBw.trans (hB2.mono hBw.size); have hb2 := (hB2.block _ (Array.getElem?_eq_some_iff.1 hb').1).trans hb'; have HK2 := HK w2)
    | (go_at_call 30; (with_reducible refine HK2.mono ?_); clear HK2; rintro e w1 ⟨rfl, hB1⟩; have hr := (hB1.block _ (Array.getElem?_eq_some_iff.1 hb2).1).trans hb2; obtain ⟨⟨z0, z1, z2, z3, z4, z5, z6, z7, z8, z9, z10, z11, z12⟩, y0, y1, y2, y3, y4, y5, y6, y7, y8, y9, y10, y11, y12⟩ := cell_row13 hr))
  refine bodyPost_ret (results_cell_row (by rfl) _ _ w.heap.size 50 _ _ _ (by rfl) (set13_row hr) Try.underlying50 (by rfl) infoDeed) (by rfl) ?_
  exact ⟨none, 0, none, rfl, (fun j v hj => by simp [makesD, mapO, mflat] at hj), (fun j v hj => by simp [makesD] at hj), below_set13 (hBw2.trans (hB1.mono hBw2.size)) (Nat.le_refl _) _ _ _ _ _ _ _ _ _ _ _ _ _⟩

theorem mapNil_in (w : World) : Calls Try.prog 5 #[.slice none 0 0, .slice none 0 0] w (DidR w [mapO [] 0] ⟨5, 1⟩ ⟨#[]⟩ 3) := by
  have := pMap_in (ask_nil w) 0 (l := []) (q := none) 0 (fun j v hj => by simp at hj) (fun _ => rfl) (by simp) (by simp) (by simp) (by unfold maxLen; decide) (by simp [sumL]) (D := ⟨[] ++ [mapO [] 0], ⟨5, (([] : List Om).length : Int) + 1⟩, ⟨#[]⟩, (wordsO (mapO [] 0) : Nat)⟩) (.inr ⟨by simp [fineP], makesD (mapO [] 0), DoneR.new (d := makesD (mapO [] 0)) (by simp [makesD, mapO]) rfl (by simp [makesD, mapO, mflat]) (by show (0 : Nat) ≤ 1048576; omega), fun W hB => Map_nil W⟩)
  exact this

end Go.Proofs.Ytgokofomoachaab
