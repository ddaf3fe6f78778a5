/- The order of the head's region. -/
import Derived.Test.YtcpnjfoblacnhaaDoorVfPHeadL
namespace Go.Proofs.YtcpnjfoblacnhaaDoor
set_option linter.unusedVariables false
set_option linter.unusedSimpArgs false
open Go.RowKit

theorem lexc9 : ((Tryd.f27.body).bind (regOf 1)).map (fun ops => (List.range' (4 * 9) (min 4 (107 - 4 * 9))).all (stepB 107 ops)) = some true := by kernel_rfl

theorem lexc10 : ((Tryd.f27.body).bind (regOf 1)).map (fun ops => (List.range' (4 * 10) (min 4 (107 - 4 * 10))).all (stepB 107 ops)) = some true := by kernel_rfl

theorem lexc11 : ((Tryd.f27.body).bind (regOf 1)).map (fun ops => (List.range' (4 * 11) (min 4 (107 - 4 * 11))).all (stepB 107 ops)) = some true := by kernel_rfl

theorem lexc12 : ((Tryd.f27.body).bind (regOf 1)).map (fun ops => (List.range' (4 * 12) (min 4 (107 - 4 * 12))).all (stepB 107 ops)) = some true := by kernel_rfl

theorem lexc13 : ((Tryd.f27.body).bind (regOf 1)).map (fun ops => (List.range' (4 * 13) (min 4 (107 - 4 * 13))).all (stepB 107 ops)) = some true := by kernel_rfl

theorem lexc14 : ((Tryd.f27.body).bind (regOf 1)).map (fun ops => (List.range' (4 * 14) (min 4 (107 - 4 * 14))).all (stepB 107 ops)) = some true := by kernel_rfl

theorem lexc15 : ((Tryd.f27.body).bind (regOf 1)).map (fun ops => (List.range' (4 * 15) (min 4 (107 - 4 * 15))).all (stepB 107 ops)) = some true := by kernel_rfl

theorem lexc16 : ((Tryd.f27.body).bind (regOf 1)).map (fun ops => (List.range' (4 * 16) (min 4 (107 - 4 * 16))).all (stepB 107 ops)) = some true := by kernel_rfl

theorem lexc17 : ((Tryd.f27.body).bind (regOf 1)).map (fun ops => (List.range' (4 * 17) (min 4 (107 - 4 * 17))).all (stepB 107 ops)) = some true := by kernel_rfl

end Go.Proofs.YtcpnjfoblacnhaaDoor
