/- The order of the head's region. -/
import Derived.Test.YtcpnjfoblacnhaaDoorVfPHeadL
namespace Go.Proofs.YtcpnjfoblacnhaaDoor
set_option linter.unusedVariables false
set_option linter.unusedSimpArgs false
open Go.RowKit

theorem lexc18 : ((Tryd.f27.body).bind (regOf 1)).map (fun ops => (List.range' (4 * 18) (min 4 (107 - 4 * 18))).all (stepB 107 ops)) = some true := by kernel_rfl

theorem lexc19 : ((Tryd.f27.body).bind (regOf 1)).map (fun ops => (List.range' (4 * 19) (min 4 (107 - 4 * 19))).all (stepB 107 ops)) = some true := by kernel_rfl

theorem lexc20 : ((Tryd.f27.body).bind (regOf 1)).map (fun ops => (List.range' (4 * 20) (min 4 (107 - 4 * 20))).all (stepB 107 ops)) = some true := by kernel_rfl

theorem lexc21 : ((Tryd.f27.body).bind (regOf 1)).map (fun ops => (List.range' (4 * 21) (min 4 (107 - 4 * 21))).all (stepB 107 ops)) = some true := by kernel_rfl

theorem lexc22 : ((Tryd.f27.body).bind (regOf 1)).map (fun ops => (List.range' (4 * 22) (min 4 (107 - 4 * 22))).all (stepB 107 ops)) = some true := by kernel_rfl

theorem lexc23 : ((Tryd.f27.body).bind (regOf 1)).map (fun ops => (List.range' (4 * 23) (min 4 (107 - 4 * 23))).all (stepB 107 ops)) = some true := by kernel_rfl

theorem lexc24 : ((Tryd.f27.body).bind (regOf 1)).map (fun ops => (List.range' (4 * 24) (min 4 (107 - 4 * 24))).all (stepB 107 ops)) = some true := by kernel_rfl

theorem lexc25 : ((Tryd.f27.body).bind (regOf 1)).map (fun ops => (List.range' (4 * 25) (min 4 (107 - 4 * 25))).all (stepB 107 ops)) = some true := by kernel_rfl

theorem lexc26 : ((Tryd.f27.body).bind (regOf 1)).map (fun ops => (List.range' (4 * 26) (min 4 (107 - 4 * 26))).all (stepB 107 ops)) = some true := by kernel_rfl

end Go.Proofs.YtcpnjfoblacnhaaDoor
