/- cut: the arena ends at a place. -/
import Derived.Test.YtkombdkhodjckaaAdd
namespace Go.Proofs.Ytkombdkhodjckaa
open Go.RowKit

variable {n₀ b : Nat} {vw vb : Value} {w : World} {A : Ar}

def cutA (A : Ar) (stays : Option Nat) (at_ : Nat) : Ar :=
  let A1 := tieA A stays none
  { A1 with ws := A1.ws.take at_, bs := A1.bs.take at_ }

theorem row_shorter' {w : World} {base : Nat} {e : TypeId} {p : Option Addr} {n c m : Nat} {xs : List Value} (h : w.ownsRow base e 1 (.slice p n c) n xs) (hm : m ≤ n) : w.ownsRow base e 1 (.slice p m c) m (xs.take m) := by
  rcases h.2 with ⟨h', h0⟩ | ⟨g', cap, cur, h', _⟩
  · have hl : xs.length = n := by simpa using h.1
    obtain rfl : m = 0 := by omega
    simp only [Value.slice.injEq] at h'
    obtain ⟨rfl, rfl, rfl⟩ := h'
    exact ⟨by simp, .inl ⟨rfl, rfl⟩⟩
  · simp only [Value.slice.injEq] at h'
    obtain ⟨rfl, _, rfl⟩ := h'
    exact row_shorter h hm

/-- The words are cut, and stored. -/
theorem IsAr.cutWords {p : Option Addr} {c m : Nat} (h : IsAr n₀ b (.slice p A.ws.length c) vb w A) (hm : m ≤ A.ws.length) :
    IsAr n₀ b (.slice p m c) vb (w.setCell ⟨b, 1, none⟩ (.slice p m c)) { A with ws := A.ws.take m } ∧ Step b (.slice p A.ws.length c) vb w (.slice p m c) vb (w.setCell ⟨b, 1, none⟩ (.slice p m c)) := by
  have hgr : w.grownBy (w.setCell ⟨b, 1, none⟩ (.slice p m c)) (some b) := ⟨rfl, rfl, rfl, by simp [World.setCell], fun k _ hk => heap_setCell_other w ⟨b, 1, none⟩ k _ (fun e => hk (by rw [e]))⟩
  have hob : (Value.slice p m c).ownBlock = (Value.slice p A.ws.length c).ownBlock := by cases p <;> rfl
  refine ⟨⟨h.base, ?_, ?_, h.rb.kept hgr (.inr h.nb), h.leb, ?_, h.lim, fun x hx => h.val x (List.mem_of_mem_take hx)⟩, ⟨rfl, rfl, rfl, by simp [World.setCell], fun k _ hb _ _ => heap_setCell_other w ⟨b, 1, none⟩ k _ hb, ?_, fun _ h => .inl h⟩⟩
  · have := heap_setCell_same w b 1 _ 86 (.slice p m c) h.blk
    simpa using this
  · have := (row_shorter' h.rw hm).kept hgr (.inr (by rw [hob]; exact h.nw))
    rw [← List.map_take] at this
    have e : (A.ws.take m).length = m := by simp; omega
    simpa [e] using this
  · have := h.le; simp; omega
  · intro k hk; left; rw [← hob]; exact hk

theorem IsAr.cutMarks {p : Option Addr} {c m : Nat} (h : IsAr n₀ b vw (.slice p A.bs.length c) w A) (hm : m ≤ A.bs.length) :
    IsAr n₀ b vw (.slice p m c) (w.setCell ⟨b, 2, none⟩ (.slice p m c)) { A with bs := A.bs.take m } ∧ Step b vw (.slice p A.bs.length c) w vw (.slice p m c) (w.setCell ⟨b, 2, none⟩ (.slice p m c)) := by
  have hgr : w.grownBy (w.setCell ⟨b, 2, none⟩ (.slice p m c)) (some b) := ⟨rfl, rfl, rfl, by simp [World.setCell], fun k _ hk => heap_setCell_other w ⟨b, 2, none⟩ k _ (fun e => hk (by rw [e]))⟩
  have hob : (Value.slice p m c).ownBlock = (Value.slice p A.bs.length c).ownBlock := by cases p <;> rfl
  refine ⟨⟨h.base, ?_, h.rw.kept hgr (.inr h.nw), ?_, ?_, h.le, h.lim, h.val⟩, ⟨rfl, rfl, rfl, by simp [World.setCell], fun k _ hb _ _ => heap_setCell_other w ⟨b, 2, none⟩ k _ hb, fun _ h => .inl h, ?_⟩⟩
  · have := heap_setCell_same w b 2 _ 86 (.slice p m c) h.blk
    simpa using this
  · have := (row_shorter' h.rb hm).kept hgr (.inr (by rw [hob]; exact h.nb))
    rw [← List.map_take] at this
    have e : (A.bs.take m).length = m := by simp; omega
    simpa [e] using this
  · have := h.leb; simp; omega
  · intro k hk; left; rw [← hob]; exact hk

end Go.Proofs.Ytkombdkhodjckaa
