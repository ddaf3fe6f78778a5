/- prim: sets. -/
import Derived.Test.YtgokofomoachaabPmUpd
namespace Go.Proofs.Ytgokofomoachaab
set_option linter.unusedVariables false
set_option linter.unusedSimpArgs false
open Go.RowKit

variable {w : World}

theorem map_set_o {ts : List Po} {S : List Om} (hm : ts.map Po.o = S) (i : Nat) (y : Po) : (ts.set i y).map Po.o = S.set i y.o := by
  rw [List.map_set, hm]

/-- A Did in a block of its own. -/
def didB (p : Option Addr) (n c : Nat) (v : Vl) (t : ByteArray) (m : Int) : Obj := .cells #[.slice p n c, .int .u8 v.k, .int .i64 v.n, .string t, .int .i64 m] 30 (0, 0)

end Go.Proofs.Ytgokofomoachaab
