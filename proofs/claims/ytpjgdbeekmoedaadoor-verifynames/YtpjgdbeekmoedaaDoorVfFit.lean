/- Kinds and ops of a function fit. -/
import Derived.Test.YtpjgdbeekmoedaaDoorVfMem
namespace Go.Proofs.YtpjgdbeekmoedaaDoor

/-- Kinds and ops fit. -/
structure FitF (f : Fm) : Prop where
  consts : ∀ c ∈ f.consts, c.k < 256
  code : ∀ i ∈ f.code, i.op < 256
  name : f.name.size ≤ 140737488355328

end Go.Proofs.YtpjgdbeekmoedaaDoor
