/- What an arena is in memory; what a step may turn; the law for append(s, make([]T, n)...). -/
import Derived.Test.YtkombdkhodjckaaRows
import Derived.Test.YtkombdkhodjckaaBits
import Derived.WalkKit
import Derived.WalkSpells
import Derived.WalkLawsBesides
namespace Go.Proofs.Ytkombdkhodjckaa
open Go.RowKit

theorem zeroCells_one (z : Value) (n : Nat) : (Builtin.zeroCells #[z] n).toList = List.replicate n z := by
  apply List.ext_getElem?
  intro j
  by_cases hj : j < n
  · simp [Builtin.zeroCells, hj, Nat.mod_one]
  · simp [Builtin.zeroCells, hj]

theorem run_append_zeros {P : Program} (w : World) (base : Nat) (t ti ty e : TypeId) (ik : IntKind) (i : TypeInfo) (z : Value) (bytes : Nat) (ht : P.underlying t = some (.slice e)) (hti : P.underlying ti = some (.int ik)) (hi : P.info? e = some i) (hz : i.zero = some z)
    (hsize : i.size = 1) (hby : i.bytes = bytes) (hzs : z.cells = #[z]) (hone : z.oneCell' = true)
    (v : Value) (n : Nat) (xs : List Value) (hown : w.ownsRow base e 1 v n xs)
    (m : Nat) (hm : 0 < m) (h63 : n + m ≤ maxLen) (hbytes : (n + m) * bytes ≤ 140737488355328) (hbase : base ≤ w.heap.size) :
    ∃ v' w', (Builtin.append_ #[t, ti] ty #[v, .int .i64 (m : Int)]).run P w = .ok v' w' ∧ w'.ownsRow base e 1 v' (n + m) (xs ++ List.replicate m z) ∧ w.grownBy w' v.ownBlock ∧ (v'.ownBlock = v.ownBlock ∨ v'.ownBlock = some w.heap.size) := by
  subst hby
  have hmb : m * i.bytes ≤ 140737488355328 := Nat.le_trans (Nat.mul_le_mul_right _ (by omega)) hbytes
  have hsmall : n + m ≤ 9223372036854775807 := by simp only [maxLen] at h63; omega
  have hwrap : IntKind.i64.wrap (m : Int) = (m : Int) := by
    rw [IntKind.wrap_i64]; omega
  have hneg : ¬ ((m : Int) < 0) := by omega
  have hbig : ¬ ((m : Int) * (i.bytes : Int) > 281474976710656) := by
    have : ((m * i.bytes : Nat) : Int) ≤ 140737488355328 := by omega
    rw [Int.natCast_mul] at this; omega
  have hm0 : m ≠ 0 := by omega
  have grown : ∀ (old : Nat), old < n + m → ∀ (row : Option Nat),
      (w.drew.alloc (.cells (xs.toArray ++ Builtin.zeroCells #[z] m ++ Builtin.zeroCells #[z] (grownCap w (n + m) old e - (n + m))) e)).ownsRow base e 1
        (.slice (some ⟨w.heap.size, 0, none⟩) (n + m) (grownCap w (n + m) old e)) (n + m) (xs ++ List.replicate m z) ∧
      w.grownBy (w.drew.alloc (.cells (xs.toArray ++ Builtin.zeroCells #[z] m ++ Builtin.zeroCells #[z] (grownCap w (n + m) old e - (n + m))) e)) row := by
    intro old ho row
    have hge := grownCap_ge w (n + m) old e
    have hcm : grownCap w (n + m) old e ≤ maxLen := grownCap_le_maxLen w (n + m) old e h63
    have hxl : xs.length = n := by simpa using hown.1
    refine ⟨⟨by simp [hxl], .inr ⟨w.heap.size, _, _, rfl, hbase, heap_alloc_new w.drew _, hge, hcm, ?_, ?_⟩⟩, ⟨rfl, rfl, rfl, by simp, fun k hk _ => Below.heap_alloc w.drew _ k hk⟩⟩
    · simp only [Array.size_append, List.size_toArray, size_zeroCells, hxl]
      simp; omega
    · simp only [Array.toList_append, zeroCells_one]
      rw [List.take_append_of_le_length (by simp [hxl]), List.take_of_length_le (by simp [hxl])]
  rcases hown.2 with ⟨rfl, rfl⟩ | ⟨g, cap, cur, rfl, hbg, hg, hnc, hcm, hcs, htake⟩
  · have hx : xs = [] := List.eq_nil_of_length_eq_zero (by simpa using hown.1)
    subst hx
    have hgr := grown 0 (by omega) (Value.ownBlock (.slice none 0 0))
    simp only [Nat.zero_add, List.nil_append, Array.empty_append] at hgr ⊢
    refine ⟨_, _, ?_, hgr.1, hgr.2, .inr rfl⟩
    have h63' : ¬ (9223372036854775807 < (m : Int)) := by omega
    have h48' : ¬ (281474976710656 < Builtin.nextslicecap m 0 * i.bytes) := by rw [nextslicecap_zero hm]; omega
    simp [Builtin.append_, run_underlying ht, run_underlying hti, sizeOf, typeInfo, zeroValue, hi, hz, hzs, hsize, asInt, asIntOf, hwrap, hneg, hbig, hm0, h63', h48', Question.forced, run_firstCells_none, newRow, grownCap]
  · by_cases hroom : n + m ≤ cap
    · have hfit : n + m ≤ cur.size := by simp at hcs; omega
      have hst := run_storeCells_at P g (n * 1) e (Builtin.zeroCells #[z] m).toList 0 cur w hg (by rw [zeroCells_one]; simpa using hfit) (by
        rw [zeroCells_one]; intro u hu; rw [List.mem_replicate] at hu; rw [hu.2]; exact hone)
      simp only [Nat.add_zero, Nat.mul_one] at hst
      refine ⟨_, _, ?_, ⟨?_, .inr ⟨g, cap, _, rfl, hbg, setRow_heap w g cur (cur.toList.take n ++ List.replicate m z ++ cur.toList.drop (n + m)).toArray e _ hg, hroom, hcm, ?_, ?_⟩⟩, ⟨rfl, rfl, rfl, by simp, fun k _ hk => setRow_other w g k _ (fun e => hk (by simp [Value.ownBlock, e]))⟩, .inl rfl⟩
      · rw [zeroCells_one] at hst
        simp [Builtin.append_, run_underlying ht, run_underlying hti, sizeOf, typeInfo, zeroValue, hi, hz, hzs, hsize, asInt, asIntOf, hwrap, hneg, hbig, hm0, hroom, Addr.add_lit, zeroCells_one, hst]
      · simpa using hown.1
      · simp only [List.size_toArray, List.length_append, List.length_take, List.length_drop, Array.length_toList, List.length_replicate]
        simp at hcs; omega
      · have hxl : xs.length = n := by simpa using hown.1
        simp only [Nat.mul_one] at htake ⊢
        rw [htake, List.take_append_of_le_length (by simp [hxl]), List.take_of_length_le (by simp [hxl])]
    · have holds : ∀ j u, xs[j]? = some u → w.cell? ((⟨g, 0, none⟩ : Addr).add j) = some u := hown.cells (g := g) rfl
      have hgr := grown cap (by omega) (Value.ownBlock (.slice (some ⟨g, 0, none⟩) n cap))
      refine ⟨_, _, ?_, hgr.1, hgr.2, .inr rfl⟩
      have h63' : ¬ (9223372036854775807 < ((n : Int) + (m : Int))) := by omega
      have h48' : ¬ (281474976710656 < Builtin.nextslicecap (n + m) cap * i.bytes) := by have := growslice_fits (need := n + m) (old := cap) (by omega) hbytes; omega
      have hfo := run_firstCells_some (P := P) w.drew 1 n ⟨g, 0, none⟩ n cap xs hown.1 (by simpa using holds)
      simp [Builtin.append_, run_underlying ht, run_underlying hti, sizeOf, typeInfo, zeroValue, hi, hz, hzs, hsize, asInt, asIntOf, hwrap, hneg, hbig, hm0, hroom, h63', h48', Question.forced, hfo, newRow, grownCap]

theorem wpList_append_zeros {P : Program} (w : World) {ops : Array Oper} {rest : List Oper} {o : Oper} {a : Act} {Q : Exit → Act → World → Prop} (hgd : o.guard = none) (s x : Operand) (t ti : TypeId)
    (ho : o.op = .call { callee := .builtin .append, args := #[s, x], argTypes := #[t, ti] })
    (base : Nat) (e : TypeId) (ik : IntKind) (i : TypeInfo) (z : Value) (bytes : Nat) (ht : P.underlying t = some (.slice e)) (hti : P.underlying ti = some (.int ik)) (hi : P.info? e = some i) (hz : i.zero = some z)
    (hsize : i.size = 1) (hby : i.bytes = bytes) (hzs : z.cells = #[z]) (hone : z.oneCell' = true)
    (v : Value) (n : Nat) (xs : List Value) (hs : a.eval s = v) (hown : w.ownsRow base e 1 v n xs)
    (m : Nat) (hx : a.eval x = .int .i64 (m : Int)) (hm : 0 < m) (h63 : n + m ≤ maxLen) (hbytes : (n + m) * bytes ≤ 140737488355328) (hbase : base ≤ w.heap.size)
    (h : ∀ v' w', w'.ownsRow base e 1 v' (n + m) (xs ++ List.replicate m z) → w.grownBy w' v.ownBlock → (v'.ownBlock = v.ownBlock ∨ v'.ownBlock = some w.heap.size) → wpList P ops Q rest (a.put o.dst v') w') : wpList P ops Q (o :: rest) a w := by
  refine wpList_plain hgd fun K hK => ?_
  obtain ⟨v', w', hr, h2, h3, h4⟩ := run_append_zeros (P := P) w base t ti o.type e ik i z bytes ht hti hi hz hsize hby hzs hone v n xs hown m hm h63 hbytes hbase
  unfold Oper.wp execOp
  simp only [ho, resolve, invoke, builtin, Sem.run_bind, Sem.run_pure, Result.andThen_ok, List.map_toArray, List.map_cons, List.map_nil, hs, hx, hr]
  exact hK _ _ (h v' w' h2 h3 h4)

/-- An arena, plainly: its limit, its words, which of them are heads, where its last object begins. -/
structure Ar where
  limit : Nat
  ws : List Nat
  bs : List Bool
  last : Option Nat

def optI : Option Nat → Int
  | none => -1
  | some i => i

def wv (n : Nat) : Value := .int .u64 n

/-- The arena at block b of the world w. -/
structure IsAr (n₀ b : Nat) (vw vb : Value) (w : World) (A : Ar) : Prop where
  base : n₀ ≤ b
  blk : w.heap[b]? = some (.cells #[.int .i64 A.limit, vw, vb, .int .i64 (optI A.last)] 86 (0, 0))
  rw : w.ownsRow n₀ 81 1 vw A.ws.length (A.ws.map wv)
  rb : w.ownsRow n₀ 4 1 vb A.bs.length (A.bs.map Value.bool)
  leb : A.bs.length ≤ A.limit
  le : A.ws.length ≤ A.limit
  lim : A.limit ≤ 1048576
  val : ∀ x ∈ A.ws, x < 18446744073709551616

/-- What a step of an arena may turn: its own block, its two rows, new blocks. -/
structure Step (b : Nat) (vw vb : Value) (w : World) (vw' vb' : Value) (w' : World) : Prop where
  os : w'.os = w.os
  tape : w'.tape = w.tape
  output : w'.output = w.output
  size : w.heap.size ≤ w'.heap.size
  block : ∀ k, k < w.heap.size → k ≠ b → some k ≠ vw.ownBlock → some k ≠ vb.ownBlock → w'.heap[k]? = w.heap[k]?
  fw : ∀ k, vw'.ownBlock = some k → vw.ownBlock = some k ∨ w.heap.size ≤ k
  fb : ∀ k, vb'.ownBlock = some k → vb.ownBlock = some k ∨ w.heap.size ≤ k

theorem Step.refl (b : Nat) (vw vb : Value) (w : World) : Step b vw vb w vw vb w :=
  ⟨rfl, rfl, rfl, Nat.le_refl _, fun _ _ _ _ _ => rfl, fun _ h => .inl h, fun _ h => .inl h⟩

theorem Step.trans {b : Nat} {vw vb vw' vb' vw'' vb'' : Value} {w w' w'' : World} (h : Step b vw vb w vw' vb' w') (g : Step b vw' vb' w' vw'' vb'' w'') : Step b vw vb w vw'' vb'' w'' := by
  refine ⟨g.os.trans h.os, g.tape.trans h.tape, g.output.trans h.output, Nat.le_trans h.size g.size, ?_, ?_, ?_⟩
  · intro k hk hb hw hv
    refine (g.block k (Nat.lt_of_lt_of_le hk h.size) hb ?_ ?_).trans (h.block k hk hb hw hv)
    · intro e; rcases h.fw k e.symm with e' | e'
      · exact hw e'.symm
      · omega
    · intro e; rcases h.fb k e.symm with e' | e'
      · exact hv e'.symm
      · omega
  · intro k e
    rcases g.fw k e with e' | e'
    · exact h.fw k e'
    · exact .inr (Nat.le_trans h.size e')
  · intro k e
    rcases g.fb k e with e' | e'
    · exact h.fb k e'
    · exact .inr (Nat.le_trans h.size e')

theorem Step.drew {b : Nat} {vw vb vw' vb' : Value} {w w' : World} (h : Step b vw vb w vw' vb' w') : Step b vw vb w vw' vb' w'.drew := ⟨h.os, h.tape, h.output, h.size, h.block, h.fw, h.fb⟩

theorem Step.of_below {b : Nat} {vw vb : Value} {w w' : World} (h : Below w.heap.size w w') : Step b vw vb w vw vb w' :=
  ⟨h.os, h.tape, h.output, h.size, fun k hk _ _ _ => h.block k hk, fun _ h => .inl h, fun _ h => .inl h⟩

theorem Step.below {n₀ b : Nat} {vw vb vw' vb' : Value} {w w' : World} {A : Ar} (h : Step b vw vb w vw' vb' w') (hA : IsAr n₀ b vw vb w A) : Below n₀ w w' := by
  refine ⟨h.os, h.tape, h.output, h.size, fun k hk => ?_⟩
  have hb := hA.base
  have hlt : b < w.heap.size := (Array.getElem?_eq_some_iff.1 hA.blk).1
  refine h.block k (by omega) (by omega) ?_ ?_
  · intro e; have := (hA.rw.lt k e.symm).1; omega
  · intro e; have := (hA.rb.lt k e.symm).1; omega

namespace IsAr

variable {n₀ b : Nat} {vw vb : Value} {w : World} {A : Ar}

theorem lt (h : IsAr n₀ b vw vb w A) : b < w.heap.size := (Array.getElem?_eq_some_iff.1 h.blk).1

theorem c0 (h : IsAr n₀ b vw vb w A) : w.cell? ⟨b, 0, none⟩ = some (.int .i64 A.limit) := by rw [cell_of_row w b 0 _ _ _ h.blk]; rfl

theorem c1 (h : IsAr n₀ b vw vb w A) : w.cell? ⟨b, 1, none⟩ = some vw := by rw [cell_of_row w b 1 _ _ _ h.blk]; rfl

theorem c2 (h : IsAr n₀ b vw vb w A) : w.cell? ⟨b, 2, none⟩ = some vb := by rw [cell_of_row w b 2 _ _ _ h.blk]; rfl

theorem c3 (h : IsAr n₀ b vw vb w A) : w.cell? ⟨b, 3, none⟩ = some (.int .i64 (optI A.last)) := by rw [cell_of_row w b 3 _ _ _ h.blk]; rfl

theorem f (h : IsAr n₀ b vw vb w A) (j : Nat) : w.frozen? ⟨b, j, none⟩ = false := frozen_of_row w b j _ _ h.blk

theorem row_form {w : World} {base : Nat} {e : TypeId} {v : Value} {n : Nat} {xs : List Value} (h : w.ownsRow base e 1 v n xs) : ∃ p c, v = .slice p n c ∧ n ≤ c ∧ c ≤ maxLen := by
  rcases h.2 with ⟨rfl, rfl⟩ | ⟨g, cap, cur, rfl, _, _, h1, h2, _⟩
  · exact ⟨none, 0, rfl, Nat.le_refl _, by unfold maxLen; omega⟩
  · exact ⟨_, _, rfl, h1, h2⟩

theorem row_some {w : World} {base : Nat} {e : TypeId} {v : Value} {n : Nat} {xs : List Value} (h : w.ownsRow base e 1 v n xs) (hn : 0 < n) : ∃ g c, v = .slice (some ⟨g, 0, none⟩) n c ∧ n ≤ c ∧ c ≤ maxLen := by
  rcases h.2 with ⟨rfl, rfl⟩ | ⟨g, cap, cur, rfl, _, _, h1, h2, _⟩
  · omega
  · exact ⟨_, _, rfl, h1, h2⟩

theorem row_type {w : World} {base : Nat} {e : TypeId} {v : Value} {n : Nat} {xs : List Value} (h : w.ownsRow base e 1 v n xs) {k : Nat} (hk : v.ownBlock = some k) : ∃ cur, w.heap[k]? = some (.cells cur e (0, 0)) := by
  rcases h.2 with ⟨rfl, rfl⟩ | ⟨g, cap, cur, rfl, _, hg, _⟩
  · simp [Value.ownBlock] at hk
  · simp [Value.ownBlock] at hk; subst hk; exact ⟨cur, hg⟩

theorem nw (h : IsAr n₀ b vw vb w A) : vw.ownBlock ≠ some b := by
  intro e; obtain ⟨cur, hc⟩ := row_type h.rw e; rw [h.blk] at hc; simp at hc

theorem nb (h : IsAr n₀ b vw vb w A) : vb.ownBlock ≠ some b := by
  intro e; obtain ⟨cur, hc⟩ := row_type h.rb e; rw [h.blk] at hc; simp at hc

theorem nwb (h : IsAr n₀ b vw vb w A) {k : Nat} (hk : vw.ownBlock = some k) : vb.ownBlock ≠ some k := by
  intro e; obtain ⟨cur, hc⟩ := row_type h.rb e; obtain ⟨cur', hc'⟩ := row_type h.rw hk; rw [hc] at hc'; simp at hc'

/-- A world in which the three blocks are as they were has the arena. -/
theorem kept (h : IsAr n₀ b vw vb w A) {w' : World} (hb : w'.heap[b]? = w.heap[b]?) (hw : ∀ k, vw.ownBlock = some k → w'.heap[k]? = w.heap[k]?) (hv : ∀ k, vb.ownBlock = some k → w'.heap[k]? = w.heap[k]?) : IsAr n₀ b vw vb w' A := by
  have row : ∀ {e : TypeId} {v : Value} {n : Nat} {xs : List Value}, w.ownsRow n₀ e 1 v n xs → (∀ k, v.ownBlock = some k → w'.heap[k]? = w.heap[k]?) → w'.ownsRow n₀ e 1 v n xs := by
    intro e v n xs hr hk
    refine ⟨hr.1, ?_⟩
    rcases hr.2 with hn | ⟨g, cap, cur, rfl, hb, hgg, rest⟩
    · exact .inl hn
    · exact .inr ⟨g, cap, cur, rfl, hb, by rw [hk g rfl]; exact hgg, rest⟩
  exact ⟨h.base, hb.trans h.blk, row h.rw hw, row h.rb hv, h.leb, h.le, h.lim, h.val⟩

theorem below (h : IsAr n₀ b vw vb w A) {w' : World} (hB : Below w.heap.size w w') : IsAr n₀ b vw vb w' A :=
  h.kept (hB.block b h.lt) (fun k hk => hB.block k (h.rw.lt k hk).2) (fun k hk => hB.block k (h.rb.lt k hk).2)

theorem drew (h : IsAr n₀ b vw vb w A) : IsAr n₀ b vw vb w.drew A := ⟨h.base, h.blk, h.rw, h.rb, h.leb, h.le, h.lim, h.val⟩

theorem drewN (h : IsAr n₀ b vw vb w A) (k : Nat) : IsAr n₀ b vw vb (w.drewN k) A := ⟨h.base, h.blk, h.rw, h.rb, h.leb, h.le, h.lim, h.val⟩

/-- A word of the arena. -/
theorem word (h : IsAr n₀ b vw vb w A) {i x : Nat} (hi : A.ws[i]? = some x) : ∃ g c, vw = .slice (some ⟨g, 0, none⟩) A.ws.length c ∧ w.cell? ⟨g, i, none⟩ = some (.int .u64 x) ∧ w.frozen? ⟨g, i, none⟩ = false := by
  have hlt : i < A.ws.length := (List.getElem?_eq_some_iff.1 hi).1
  obtain ⟨g, c, rfl, _, _⟩ := row_some h.rw (by omega)
  refine ⟨g, c, rfl, ?_, h.rw.frozenAt i⟩
  rw [h.rw.cellAt i (by omega)]
  simp [hi, wv]

theorem mark (h : IsAr n₀ b vw vb w A) {i : Nat} {x : Bool} (hi : A.bs[i]? = some x) : ∃ g c, vb = .slice (some ⟨g, 0, none⟩) A.bs.length c ∧ w.cell? ⟨g, i, none⟩ = some (.bool x) ∧ w.frozen? ⟨g, i, none⟩ = false := by
  have hlt : i < A.bs.length := (List.getElem?_eq_some_iff.1 hi).1
  obtain ⟨g, c, rfl, _, _⟩ := row_some h.rb (by omega)
  refine ⟨g, c, rfl, ?_, h.rb.frozenAt i⟩
  rw [h.rb.cellAt i (by omega)]
  simp [hi]

/-- A store into a word. -/
theorem setWord (h : IsAr n₀ b vw vb w A) {g c i y : Nat} (hv : vw = .slice (some ⟨g, 0, none⟩) A.ws.length c) (hy : y < 18446744073709551616) :
    IsAr n₀ b vw vb (w.setCell ⟨g, i, none⟩ (.int .u64 y)) { A with ws := A.ws.set i y } ∧ Step b vw vb w vw vb (w.setCell ⟨g, i, none⟩ (.int .u64 y)) := by
  have hg : vw.ownBlock = some g := by rw [hv]; rfl
  have hgb : g ≠ b := fun e => h.nw (by rw [hg, e])
  have hs := (hv ▸ h.rw).stored i (.int .u64 y)
  refine ⟨⟨h.base, (heap_setCell_other w ⟨g, i, none⟩ b _ hgb.symm).trans h.blk, ?_, ?_, ?_, ?_, h.lim, ?_⟩, ⟨rfl, rfl, rfl, by simp [World.setCell], fun k _ _ hw _ => heap_setCell_other w ⟨g, i, none⟩ k _ (fun e => hw (by rw [hg, e])), fun _ h => .inl h, fun _ h => .inl h⟩⟩
  · have := hs.1
    rw [hv]
    simpa [wv, List.map_set] using this
  · exact h.rb.kept hs.2 (.inr (h.nwb hg))
  · simpa using h.leb
  · simpa using h.le
  · intro x hx
    rcases List.mem_or_eq_of_mem_set hx with h' | h'
    · exact h.val x h'
    · omega

/-- A store into a mark. -/
theorem setMark (h : IsAr n₀ b vw vb w A) {g c i : Nat} {y : Bool} (hv : vb = .slice (some ⟨g, 0, none⟩) A.bs.length c) :
    IsAr n₀ b vw vb (w.setCell ⟨g, i, none⟩ (.bool y)) { A with bs := A.bs.set i y } ∧ Step b vw vb w vw vb (w.setCell ⟨g, i, none⟩ (.bool y)) := by
  have hg : vb.ownBlock = some g := by rw [hv]; rfl
  have hgb : g ≠ b := fun e => h.nb (by rw [hg, e])
  have hs := (hv ▸ h.rb).stored i (.bool y)
  refine ⟨⟨h.base, (heap_setCell_other w ⟨g, i, none⟩ b _ hgb.symm).trans h.blk, ?_, ?_, ?_, h.le, h.lim, h.val⟩, ⟨rfl, rfl, rfl, by simp [World.setCell], fun k _ _ _ hw => heap_setCell_other w ⟨g, i, none⟩ k _ (fun e => hw (by rw [hg, e])), fun _ h => .inl h, fun _ h => .inl h⟩⟩
  · refine h.rw.kept hs.2 ?_
    cases e : vw.ownBlock with
    | none => exact .inl rfl
    | some k => exact .inr (fun e' => h.nwb e (by rw [hg, e']))
  · have := hs.1
    rw [hv]
    simpa [List.map_set] using this
  · simpa using h.leb

/-- A store into 'last'. -/
theorem setLast (h : IsAr n₀ b vw vb w A) (o : Option Nat) :
    IsAr n₀ b vw vb (w.setCell ⟨b, 3, none⟩ (.int .i64 (optI o))) { A with last := o } ∧ Step b vw vb w vw vb (w.setCell ⟨b, 3, none⟩ (.int .i64 (optI o))) := by
  have hgr : w.grownBy (w.setCell ⟨b, 3, none⟩ (.int .i64 (optI o))) (some b) := ⟨rfl, rfl, rfl, by simp [World.setCell], fun k _ hk => heap_setCell_other w ⟨b, 3, none⟩ k _ (fun e => hk (by rw [e]))⟩
  refine ⟨⟨h.base, ?_, h.rw.kept hgr (.inr h.nw), h.rb.kept hgr (.inr h.nb), h.leb, h.le, h.lim, h.val⟩, ⟨rfl, rfl, rfl, by simp [World.setCell], fun k _ hb _ _ => heap_setCell_other w ⟨b, 3, none⟩ k _ hb, fun _ h => .inl h, fun _ h => .inl h⟩⟩
  have := heap_setCell_same w b 3 _ 86 (.int .i64 (optI o)) h.blk
  simpa using this

/-- The words' row has grown and is stored. -/
theorem grownWords (h : IsAr n₀ b vw vb w A) {w1 : World} {v' : Value} {m : Nat} (hown : w1.ownsRow n₀ 81 1 v' (A.ws.length + m) (A.ws.map wv ++ List.replicate m (.int .u64 0))) (hg : w.grownBy w1 vw.ownBlock)
    (hf : v'.ownBlock = vw.ownBlock ∨ v'.ownBlock = some w.heap.size) (hm : A.ws.length + m ≤ A.limit) :
    IsAr n₀ b v' vb (w1.setCell ⟨b, 1, none⟩ v') { A with ws := A.ws ++ List.replicate m 0 } ∧ Step b vw vb w v' vb (w1.setCell ⟨b, 1, none⟩ v') := by
  have hb1 : w1.heap[b]? = some (.cells #[.int .i64 A.limit, vw, vb, .int .i64 (optI A.last)] 86 (0, 0)) := (hg.block b h.lt (fun e => h.nw e.symm)).trans h.blk
  have hvb : v'.ownBlock ≠ some b := by
    intro e; obtain ⟨cur, hc⟩ := row_type hown e; rw [hb1] at hc; simp at hc
  have hgr : w1.grownBy (w1.setCell ⟨b, 1, none⟩ v') (some b) := ⟨rfl, rfl, rfl, by simp [World.setCell], fun k _ hk => heap_setCell_other w1 ⟨b, 1, none⟩ k _ (fun e => hk (by rw [e]))⟩
  have hrb1 : w1.ownsRow n₀ 4 1 vb A.bs.length (A.bs.map Value.bool) := h.rb.kept hg (by
    cases e : vb.ownBlock with
    | none => exact .inl rfl
    | some k => exact .inr (fun e' => h.nwb e'.symm e))
  refine ⟨⟨h.base, ?_, ?_, hrb1.kept hgr (.inr h.nb), h.leb, by simpa using hm, h.lim, ?_⟩, ⟨hg.os, hg.tape, hg.output, by simpa [World.setCell] using hg.size, ?_, ?_, fun _ h => .inl h⟩⟩
  · have := heap_setCell_same w1 b 1 _ 86 v' hb1
    simpa using this
  · have := hown.kept hgr (.inr hvb)
    simpa [wv] using this
  · intro x hx
    rcases List.mem_append.1 hx with h' | h'
    · exact h.val x h'
    · rw [List.mem_replicate] at h'; omega
  · intro k hk hkb hkw _
    exact (heap_setCell_other w1 ⟨b, 1, none⟩ k _ hkb).trans (hg.block k hk hkw)
  · intro k e
    rcases hf with hf | hf
    · exact .inl (by rw [← hf]; exact e)
    · rw [hf] at e; right; simp at e; omega

theorem grownMarks (h : IsAr n₀ b vw vb w A) {w1 : World} {v' : Value} {m : Nat} (hown : w1.ownsRow n₀ 4 1 v' (A.bs.length + m) (A.bs.map Value.bool ++ List.replicate m (.bool false))) (hg : w.grownBy w1 vb.ownBlock)
    (hf : v'.ownBlock = vb.ownBlock ∨ v'.ownBlock = some w.heap.size) (hm : A.bs.length + m ≤ A.limit) :
    IsAr n₀ b vw v' (w1.setCell ⟨b, 2, none⟩ v') { A with bs := A.bs ++ List.replicate m false } ∧ Step b vw vb w vw v' (w1.setCell ⟨b, 2, none⟩ v') := by
  have hb1 : w1.heap[b]? = some (.cells #[.int .i64 A.limit, vw, vb, .int .i64 (optI A.last)] 86 (0, 0)) := (hg.block b h.lt (fun e => h.nb e.symm)).trans h.blk
  have hvb : v'.ownBlock ≠ some b := by
    intro e; obtain ⟨cur, hc⟩ := row_type hown e; rw [hb1] at hc; simp at hc
  have hgr : w1.grownBy (w1.setCell ⟨b, 2, none⟩ v') (some b) := ⟨rfl, rfl, rfl, by simp [World.setCell], fun k _ hk => heap_setCell_other w1 ⟨b, 2, none⟩ k _ (fun e => hk (by rw [e]))⟩
  have hrw1 : w1.ownsRow n₀ 81 1 vw A.ws.length (A.ws.map wv) := h.rw.kept hg (by
    cases e : vw.ownBlock with
    | none => exact .inl rfl
    | some k => exact .inr (fun e' => h.nwb e e'.symm))
  refine ⟨⟨h.base, ?_, hrw1.kept hgr (.inr h.nw), ?_, by simpa using hm, h.le, h.lim, h.val⟩, ⟨hg.os, hg.tape, hg.output, by simpa [World.setCell] using hg.size, ?_, fun _ h => .inl h, ?_⟩⟩
  · have := heap_setCell_same w1 b 2 _ 86 v' hb1
    simpa using this
  · have := hown.kept hgr (.inr hvb)
    simpa using this
  · intro k hk hkb _ hkw
    exact (heap_setCell_other w1 ⟨b, 2, none⟩ k _ hkb).trans (hg.block k hk hkw)
  · intro k e
    rcases hf with hf | hf
    · exact .inl (by rw [← hf]; exact e)
    · rw [hf] at e; right; simp at e; omega

end IsAr

theorem row_shorter {w : World} {base : Nat} {e : TypeId} {g n c m : Nat} {xs : List Value} (h : w.ownsRow base e 1 (.slice (some ⟨g, 0, none⟩) n c) n xs) (hm : m ≤ n) : w.ownsRow base e 1 (.slice (some ⟨g, 0, none⟩) m c) m (xs.take m) := by
  have hl : xs.length = n := by simpa using h.1
  rcases h.2 with ⟨h', _⟩ | ⟨g', cap, cur, h', hb, hg, h1, h2, h3, h4⟩
  · simp at h'
  · simp only [Value.slice.injEq, Option.some.injEq, Addr.mk.injEq, and_true, true_and] at h'
    obtain ⟨rfl, rfl⟩ := h'
    refine ⟨by simp [hl]; omega, .inr ⟨g, c, cur, rfl, hb, hg, by omega, h2, h3, ?_⟩⟩
    rw [← h4, List.take_take]; congr 1; omega

end Go.Proofs.Ytkombdkhodjckaa
