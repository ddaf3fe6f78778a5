/- May a value be, with all that it leads to: plainly. -/
import Derived.Test.YtgokofomoachaaaShValid
import Derived.Test.YtgokofomoachaaaShMath
namespace Go.Proofs.Ytgokofomoachaaa

/-- May a value be, with all that it leads to? -/
def checkP (S : List Om) (v : Vl) : Prop := valP S v ∧ ∀ x o, Reach S [v] x → objAt S x = some o → objP S o

end Go.Proofs.Ytgokofomoachaaa
