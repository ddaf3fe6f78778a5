/- The document's Depths (gearboxref09); what a Check without fault says. -/
import Derived.Test.YtpjgdbeekmoedaaDoorVfCheck
namespace Go.Proofs.YtpjgdbeekmoedaaDoor
set_option linter.unusedVariables false
set_option linter.unusedSimpArgs false
open Go.RowKit

variable {w : World}

theorem fnsP_ok {fs : List Fm} : ∀ {r : List Fm} {fn : Nat} {mk : List Int}, (fnsP fs r fn mk).1 = none → (∀ f ∈ r, ∀ i ∈ f.code, i.op < 256) → ∀ f ∈ r, CodeOk f ∧ ∃ told, depthsP f = .ok told
  | [], fn, mk, _, _ => by simp
  | f :: r, fn, mk, h, ho => by
    unfold fnsP at h
    split at h
    · rename_i hh
      cases hc : codeP fs fn f f.code 0 mk with
      | mk a b =>
        rw [hc] at h
        cases a with
        | some pc => simp at h
        | none =>
          simp only at h
          cases hd : depthsP f with
          | error pc => rw [hd] at h; simp at h
          | ok told =>
            rw [hd] at h
            simp only at h
            intro g hg
            rcases List.mem_cons.1 hg with rfl | hg
            · exact ⟨ok_of hh (by rw [hc]) (ho g (by simp)), told, hd⟩
            · exact fnsP_ok h (fun g hg => ho g (by simp [hg])) g hg
    · cases h

theorem check_ok {fs : List Fm} (h : (checkV fs).2.2 = 0) (ho : ∀ f ∈ fs, ∀ i ∈ f.code, i.op < 256) : ∀ f ∈ fs, CodeOk f ∧ ∃ told, depthsP f = .ok told := by
  unfold checkV at h
  split at h
  · simp at h
  · cases hf : fnsP fs fs 0 (List.replicate fs.length (-1)) with
    | mk a b =>
      rw [hf] at h
      cases a with
      | some x => obtain ⟨fn, pc⟩ := x; simp at h
      | none => exact fnsP_ok (by rw [hf]) ho

theorem check_err (fs : List Fm) : (checkV fs).2.2 = 0 ∨ (checkV fs).2.2 = 8 := by
  unfold checkV
  split
  · exact .inr rfl
  · split
    · exact .inr rfl
    · split
      · exact .inr rfl
      · exact .inl rfl

/-- Depths: an error, or what was told. -/
def depthsV (fs : List Fm) (fn : Int) : Except Nat (List Int) :=
  if (checkV fs).2.2 ≠ 0 then .error 8
  else if fn < 0 ∨ (fs.length : Int) ≤ fn then .error 1
  else match fs[fn.toNat]? with
    | some f => (match depthsP f with | .ok told => .ok told | .error _ => .ok [])
    | none => .error 1

/-- What Depths answers. -/
def DepthsR (fs : List Fm) (fn : Int) (base : Nat) (e : Ending) (w' : World) : Prop := match depthsV fs fn with
  | .error n => e = .returned (.tuple #[.slice none 0 0, .int .i64 (n : Nat)])
  | .ok told => ∃ g c, e = .returned (.tuple #[.slice (some ⟨g, 0, none⟩) told.length c, .int .i64 0]) ∧ NumRow base g c told w'

theorem DepthsR.bad {fs : List Fm} {fn : Int} {base n : Nat} {w' : World} (h : depthsV fs fn = .error n) : DepthsR fs fn base (.returned (.tuple #[.slice none 0 0, .int .i64 (n : Nat)])) w' := by unfold DepthsR; rw [h]

theorem DepthsR.good {fs : List Fm} {fn : Int} {base g c : Nat} {told : List Int} {w' : World} (h : depthsV fs fn = .ok told) (hr : NumRow base g c told w') : DepthsR fs fn base (.returned (.tuple #[.slice (some ⟨g, 0, none⟩) told.length c, .int .i64 0])) w' := by unfold DepthsR; rw [h]; exact ⟨g, c, rfl, hr⟩

end Go.Proofs.YtpjgdbeekmoedaaDoor
