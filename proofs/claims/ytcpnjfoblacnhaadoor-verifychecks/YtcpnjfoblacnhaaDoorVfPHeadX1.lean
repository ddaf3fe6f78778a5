/- The order of the head's region. -/
import Derived.Test.YtcpnjfoblacnhaaDoorVfPHeadL
namespace Go.Proofs.YtcpnjfoblacnhaaDoor
set_option linter.unusedVariables false
set_option linter.unusedSimpArgs false
open Go.RowKit

theorem lexn : ((Tryd.f27.body).bind (regOf 1)).map (fun ops => ops.size) = some 107 := by kernel_rfl

theorem lex0 : ((Tryd.f27.body).bind (regOf 1)).map (fun ops => Region.noSelect ops) = some true := by kernel_rfl

theorem lexz : ((Tryd.f27.body).bind (regOf 1)).map (fun ops => Region.lexFrom .any ops 0 107 (lst 107 107)) = some true := by kernel_rfl

theorem lexc0 : ((Tryd.f27.body).bind (regOf 1)).map (fun ops => (List.range' (4 * 0) (min 4 (107 - 4 * 0))).all (stepB 107 ops)) = some true := by kernel_rfl

theorem lexc1 : ((Tryd.f27.body).bind (regOf 1)).map (fun ops => (List.range' (4 * 1) (min 4 (107 - 4 * 1))).all (stepB 107 ops)) = some true := by kernel_rfl

theorem lexc2 : ((Tryd.f27.body).bind (regOf 1)).map (fun ops => (List.range' (4 * 2) (min 4 (107 - 4 * 2))).all (stepB 107 ops)) = some true := by kernel_rfl

theorem lexc3 : ((Tryd.f27.body).bind (regOf 1)).map (fun ops => (List.range' (4 * 3) (min 4 (107 - 4 * 3))).all (stepB 107 ops)) = some true := by kernel_rfl

theorem lexc4 : ((Tryd.f27.body).bind (regOf 1)).map (fun ops => (List.range' (4 * 4) (min 4 (107 - 4 * 4))).all (stepB 107 ops)) = some true := by kernel_rfl

theorem lexc5 : ((Tryd.f27.body).bind (regOf 1)).map (fun ops => (List.range' (4 * 5) (min 4 (107 - 4 * 5))).all (stepB 107 ops)) = some true := by kernel_rfl

theorem lexc6 : ((Tryd.f27.body).bind (regOf 1)).map (fun ops => (List.range' (4 * 6) (min 4 (107 - 4 * 6))).all (stepB 107 ops)) = some true := by kernel_rfl

theorem lexc7 : ((Tryd.f27.body).bind (regOf 1)).map (fun ops => (List.range' (4 * 7) (min 4 (107 - 4 * 7))).all (stepB 107 ops)) = some true := by kernel_rfl

theorem lexc8 : ((Tryd.f27.body).bind (regOf 1)).map (fun ops => (List.range' (4 * 8) (min 4 (107 - 4 * 8))).all (stepB 107 ops)) = some true := by kernel_rfl

end Go.Proofs.YtcpnjfoblacnhaaDoor
