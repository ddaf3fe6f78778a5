/- May a value be, with all that it leads to: plainly. -/
import Derived.Test.YtgokofomoachaabShValid
import Derived.Test.YtgokofomoachaabShMath
namespace Go.Proofs.Ytgokofomoachaab

/-- May a value be, with all that it leads to? -/
def checkP (S : List Om) (v : Vl) : Prop := valP S v ∧ ∀ x o, Reach S [v] x → objAt S x = some o → objP S o

end Go.Proofs.Ytgokofomoachaab
