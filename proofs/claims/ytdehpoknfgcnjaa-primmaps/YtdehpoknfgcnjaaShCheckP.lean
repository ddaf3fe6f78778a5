/- May a value be, with all that it leads to: plainly. -/
import Derived.Test.YtdehpoknfgcnjaaShValid
import Derived.Test.YtdehpoknfgcnjaaShMath
namespace Go.Proofs.Ytdehpoknfgcnjaa

/-- May a value be, with all that it leads to? -/
def checkP (S : List Om) (v : Vl) : Prop := valP S v ∧ ∀ x o, Reach S [v] x → objAt S x = some o → objP S o

end Go.Proofs.Ytdehpoknfgcnjaa
