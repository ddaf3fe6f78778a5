/- The closed facts of VerifyDepths's row: one run of the kernel, a text of its own (it takes some ten gigabytes). -/
import Derived.Test.YtpjgdbeekmoedaaGreatDoorRows
import Derived.JoinedCond
namespace Go.Proofs.YtpjgdbeekmoedaaGreatDoor

theorem verifyDepths_facts : joinedFacts Tryz.pinned.checked.prog 3 Tryz.f3 (OpenSpec.ofChange Rows.verifyDepthsSpec).bare Rows.verifyDepthsRow = true := by kernel_rfl

end Go.Proofs.YtpjgdbeekmoedaaGreatDoor
