/- The document's Depths (gearboxref09); what a Check without fault says. -/
import Derived.Test.YtpjgdbeekmoedaaGreatDoorVfCheck
namespace Go.Proofs.YtpjgdbeekmoedaaGreatDoor
set_option linter.unusedVariables false
set_option linter.unusedSimpArgs false
open Go.RowKit

variable {w : World}

theorem fnsP_ok {fs : List Fm} : ∀ {r : List Fm} {fn : Nat} {mk : List Int}, (fnsP fs r fn mk).1 = none → (∀ f ∈ r, ∀ i ∈ f.code, i.op < 256) → ∀ f ∈ r, CodeOk f ∧ ∃ told, depthsP f = .ok told
  | [], fn, mk, _, _ => by simp
  | f :: r, fn, mk, h, ho => by
    unfold fnsP at h
    split at h
    · rename_i hh
      cases hc : codeP fs fn f f.code 0 mk with
      | mk a b =>
        rw [hc] at h
        cases a with
        | some pc => simp at h
        | none =>
          simp only at h
          cases hd : depthsP f with
          | error pc => rw [hd] at h; simp at h
          | ok told =>
            rw [hd] at h
            simp only at h
            intro g hg
            rcases List.mem_cons.1 hg with rfl | hg
            · exact ⟨ok_of hh (by rw [hc]) (ho g (by simp)), told, hd⟩
            · exact fnsP_ok h (fun g hg => ho g (by simp [hg])) g hg
    · cases h

theorem check_ok {fs : List Fm} (h : (checkV fs).2.2 = 0) (ho : ∀ f ∈ fs, ∀ i ∈ f.code, i.op < 256) : ∀ f ∈ fs, CodeOk f ∧ ∃ told, depthsP f = .ok told := by
  unfold checkV at h
  split at h
  · simp at h
  · cases hf : fnsP fs fs 0 (List.replicate fs.length (-1)) with
    | mk a b =>
      rw [hf] at h
      cases a with
      | some x => obtain ⟨fn, pc⟩ := x; simp at h
      | none => exact fnsP_ok (by rw [hf]) ho

theorem check_err (fs : List Fm) : (checkV fs).2.2 = 0 ∨ (checkV fs).2.2 = 8 := by
  unfold checkV
  split
  · exact .inr rfl
  · split
    · exact .inr rfl
    · split
      · exact .inr rfl
      · exact .inl rfl

/-- Depths: an error, or what was told. -/
def depthsV (fs : List Fm) (fn : Int) : Except Nat (List Int) :=
  if (checkV fs).2.2 ≠ 0 then .error 8
  else if fn < 0 ∨ (fs.length : Int) ≤ fn then .error 1
  else match fs[fn.toNat]? with
    | some f => (match depthsP f with | .ok told => .ok told | .error _ => .ok [])
    | none => .error 1

/-- What Depths answers. -/
def DepthsR (fs : List Fm) (fn : Int) (base : Nat) (e : Ending) (w' : World) : Prop := match depthsV fs fn with
  | .error n => e = .returned (.tuple #[.slice none 0 0, .int .i64 (n : Nat)])
  | .ok told => ∃ g c, e = .returned (.tuple #[.slice (some ⟨g, 0, none⟩) told.length c, .int .i64 0]) ∧ NumRow base g c told w'

theorem DepthsR.bad {fs : List Fm} {fn : Int} {base n : Nat} {w' : World} (h : depthsV fs fn = .error n) : DepthsR fs fn base (.returned (.tuple #[.slice none 0 0, .int .i64 (n : Nat)])) w' := by unfold DepthsR; rw [h]

theorem DepthsR.good {fs : List Fm} {fn : Int} {base g c : Nat} {told : List Int} {w' : World} (h : depthsV fs fn = .ok told) (hr : NumRow base g c told w') : DepthsR fs fn base (.returned (.tuple #[.slice (some ⟨g, 0, none⟩) told.length c, .int .i64 0])) w' := by unfold DepthsR; rw [h]; exact ⟨g, c, rfl, hr⟩

set_option maxRecDepth 20000 in
set_option maxHeartbeats 4000000 in
theorem rdepths_in {p : Option Addr} {fs : List Fm} (c : Nat) (fn : Int) (hs : IsFns w p fs) (hsm : SmallP fs) (hfit : ∀ f ∈ fs, FitF f) :
    Calls Tryz.prog 9 #[.slice p fs.length c, .int .i64 fn] w fun e w' => DepthsR fs fn w.heap.size e w' ∧ Below w.heap.size w w' := by
  have H1 := rcheck_in c hs hsm hfit
  obtain ⟨r1, r2, r3, hr⟩ : ∃ r1 r2 r3, checkV fs = (r1, r2, r3) := ⟨_, _, _, rfl⟩
  have h3 : (checkV fs).2.2 = r3 := by rw [hr]
  rw [hr] at H1
  clear hr
  by_cases e0 : r3 = 0
  · subst e0
    by_cases g1 : fn < 0
    · have HD : Hid (depthsV fs fn = .error 1) := by show _ = _; unfold depthsV; rw [if_neg (by simp [h3]), if_pos (.inl g1)]
      clear hs hsm hfit h3
      go_enter Tryz.func9, Tryz.ntmps9
      go_wp2_with (first
        | (go_at_call 26; refine H1.mono ?_; clear H1; rintro e w2 ⟨rfl, hB2⟩))
      go_ret2
      exact ⟨DepthsR.bad HD.out, hB2⟩
    · by_cases g2 : (fs.length : Int) ≤ fn
      · have HD : Hid (depthsV fs fn = .error 1) := by show _ = _; unfold depthsV; rw [if_neg (by simp [h3]), if_pos (.inr g2)]
        clear hs hsm hfit h3
        go_enter Tryz.func9, Tryz.ntmps9
        go_wp2_with (first
          | (go_at_call 26; refine H1.mono ?_; clear H1; rintro e w2 ⟨rfl, hB2⟩))
        go_ret2
        exact ⟨DepthsR.bad HD.out, hB2⟩
      · obtain ⟨k, rfl⟩ : ∃ k : Nat, fn = k := ⟨fn.toNat, by omega⟩
        have hk : k < fs.length := by omega
        obtain ⟨f, hf⟩ : ∃ f, fs[k]? = some f := ⟨fs[k], by simp⟩
        obtain ⟨hok, told, htold⟩ := check_ok h3 (fun f hf => (hfit f hf).code) f (List.mem_of_getElem? hf)
        have HD : Hid (depthsV fs k = .ok told) := by
          show _ = _
          unfold depthsV
          rw [if_neg (by simp [h3]), if_neg (by omega)]
          simp only [Int.toNat_natCast, hf, htold]
        obtain ⟨b0, off, s, hp, hv, hcs⟩ := hs.look0 hf
        have HCS : Hid _ := hcs
        have H3 : ∀ W, Below w.heap.size w W → Calls Tryz.prog 27 #[.agg #[.string f.name, .int .i64 f.params, .int .i64 f.locals, .slice s.qc f.caps.length s.cc, .slice s.qk f.consts.length s.ck, .slice s.qi f.code.length s.ci, .slice s.ql f.lines.length s.cl, .slice s.qh f.hs.length s.ch]] W fun e w' => ∃ g c, e = .returned (.tuple #[.slice (some ⟨g, 0, none⟩) told.length c, .int .i64 (-1)]) ∧ NumRow W.heap.size g c told w' ∧ Below W.heap.size W w' := fun W h => (depths_in f s (hv.below h) hok).mono (fun e w' hh => by
          have := hh.1
          unfold DepR at this
          rw [htold] at this
          obtain ⟨g, c, he, hr, _⟩ := this
          exact ⟨g, c, he, hr, hh.2⟩)
        have hk' : (k : Int) < (fs.length : Int) := by omega
        subst hp
        clear hs hsm hfit h3 hcs hv hok htold hf
        go_enter Tryz.func9, Tryz.ntmps9
        go_wp2_with (first
          | (go_at_call 26; refine H1.mono ?_; clear H1; rintro e w2 ⟨rfl, hB2⟩; obtain ⟨c0, c1, c2, c3, c4, c5, c6, c7⟩ := HCS.out _ hB2)
          | (go_at_call 27; (with_reducible refine (H3 _ hB2).mono ?_); clear H3; rintro e w3 ⟨g, cg, rfl, hrow, hB3⟩))
        go_ret2
        exact ⟨DepthsR.good HD.out (row_mono2 hrow hB2.size), hB2.trans (hB3.mono hB2.size)⟩
  · obtain rfl : r3 = 8 := by have := check_err fs; omega
    have HD : Hid (depthsV fs fn = .error 8) := by show _ = _; unfold depthsV; rw [if_pos (by simp [h3])]
    clear hs hsm hfit h3 e0
    go_enter Tryz.func9, Tryz.ntmps9
    go_wp2_with (first
      | (go_at_call 26; refine H1.mono ?_; clear H1; rintro e w2 ⟨rfl, hB2⟩))
    go_ret2
    exact ⟨DepthsR.bad HD.out, hB2⟩

end Go.Proofs.YtpjgdbeekmoedaaGreatDoor
