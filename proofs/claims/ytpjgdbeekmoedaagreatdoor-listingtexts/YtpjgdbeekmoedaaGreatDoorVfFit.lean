/- Kinds and ops of a function fit. -/
import Derived.Test.YtpjgdbeekmoedaaGreatDoorVfMem
namespace Go.Proofs.YtpjgdbeekmoedaaGreatDoor

/-- Kinds and ops fit. -/
structure FitF (f : Fm) : Prop where
  consts : ∀ c ∈ f.consts, c.k < 256
  code : ∀ i ∈ f.code, i.op < 256
  name : f.name.size ≤ 140737488355328

end Go.Proofs.YtpjgdbeekmoedaaGreatDoor
