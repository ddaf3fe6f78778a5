/- The order of the head's region. -/
import Derived.Test.YtpjgdbeekmoedaaDoorVfPHeadL
namespace Go.Proofs.YtpjgdbeekmoedaaDoor
set_option linter.unusedVariables false
set_option linter.unusedSimpArgs false
open Go.RowKit

theorem lexn : ((Tryd.f27.body).bind (regOf 1)).map (fun ops => ops.size) = some 107 := by kernel_rfl

theorem lex0 : ((Tryd.f27.body).bind (regOf 1)).map (fun ops => Region.noSelect ops) = some true := by kernel_rfl

theorem lexz : ((Tryd.f27.body).bind (regOf 1)).map (fun ops => Region.lexFrom .any ops 0 107 (lst 107 107)) = some true := by kernel_rfl

theorem lexc0 : ((Tryd.f27.body).bind (regOf 1)).map (fun ops => (List.range' (4 * 0) (min 4 (107 - 4 * 0))).all (stepB 107 ops)) = some true := by kernel_rfl

theorem lexc1 : ((Tryd.f27.body).bind (regOf 1)).map (fun ops => (List.range' (4 * 1) (min 4 (107 - 4 * 1))).all (stepB 107 ops)) = some true := by kernel_rfl

theorem lexc2 : ((Tryd.f27.body).bind (regOf 1)).map (fun ops => (List.range' (4 * 2) (min 4 (107 - 4 * 2))).all (stepB 107 ops)) = some true := by kernel_rfl

theorem lexc3 : ((Tryd.f27.body).bind (regOf 1)).map (fun ops => (List.range' (4 * 3) (min 4 (107 - 4 * 3))).all (stepB 107 ops)) = some true := by kernel_rfl

theorem lexc4 : ((Tryd.f27.body).bind (regOf 1)).map (fun ops => (List.range' (4 * 4) (min 4 (107 - 4 * 4))).all (stepB 107 ops)) = some true := by kernel_rfl

theorem lexc5 : ((Tryd.f27.body).bind (regOf 1)).map (fun ops => (List.range' (4 * 5) (min 4 (107 - 4 * 5))).all (stepB 107 ops)) = some true := by kernel_rfl

theorem lexc6 : ((Tryd.f27.body).bind (regOf 1)).map (fun ops => (List.range' (4 * 6) (min 4 (107 - 4 * 6))).all (stepB 107 ops)) = some true := by kernel_rfl

theorem lexc7 : ((Tryd.f27.body).bind (regOf 1)).map (fun ops => (List.range' (4 * 7) (min 4 (107 - 4 * 7))).all (stepB 107 ops)) = some true := by kernel_rfl

theorem lexc8 : ((Tryd.f27.body).bind (regOf 1)).map (fun ops => (List.range' (4 * 8) (min 4 (107 - 4 * 8))).all (stepB 107 ops)) = some true := by kernel_rfl

end Go.Proofs.YtpjgdbeekmoedaaDoor

namespace Go.Proofs.YtpjgdbeekmoedaaDoor
set_option linter.unusedVariables false
set_option linter.unusedSimpArgs false
open Go.RowKit

theorem lexc9 : ((Tryd.f27.body).bind (regOf 1)).map (fun ops => (List.range' (4 * 9) (min 4 (107 - 4 * 9))).all (stepB 107 ops)) = some true := by kernel_rfl

theorem lexc10 : ((Tryd.f27.body).bind (regOf 1)).map (fun ops => (List.range' (4 * 10) (min 4 (107 - 4 * 10))).all (stepB 107 ops)) = some true := by kernel_rfl

theorem lexc11 : ((Tryd.f27.body).bind (regOf 1)).map (fun ops => (List.range' (4 * 11) (min 4 (107 - 4 * 11))).all (stepB 107 ops)) = some true := by kernel_rfl

theorem lexc12 : ((Tryd.f27.body).bind (regOf 1)).map (fun ops => (List.range' (4 * 12) (min 4 (107 - 4 * 12))).all (stepB 107 ops)) = some true := by kernel_rfl

theorem lexc13 : ((Tryd.f27.body).bind (regOf 1)).map (fun ops => (List.range' (4 * 13) (min 4 (107 - 4 * 13))).all (stepB 107 ops)) = some true := by kernel_rfl

theorem lexc14 : ((Tryd.f27.body).bind (regOf 1)).map (fun ops => (List.range' (4 * 14) (min 4 (107 - 4 * 14))).all (stepB 107 ops)) = some true := by kernel_rfl

theorem lexc15 : ((Tryd.f27.body).bind (regOf 1)).map (fun ops => (List.range' (4 * 15) (min 4 (107 - 4 * 15))).all (stepB 107 ops)) = some true := by kernel_rfl

theorem lexc16 : ((Tryd.f27.body).bind (regOf 1)).map (fun ops => (List.range' (4 * 16) (min 4 (107 - 4 * 16))).all (stepB 107 ops)) = some true := by kernel_rfl

theorem lexc17 : ((Tryd.f27.body).bind (regOf 1)).map (fun ops => (List.range' (4 * 17) (min 4 (107 - 4 * 17))).all (stepB 107 ops)) = some true := by kernel_rfl

end Go.Proofs.YtpjgdbeekmoedaaDoor

namespace Go.Proofs.YtpjgdbeekmoedaaDoor
set_option linter.unusedVariables false
set_option linter.unusedSimpArgs false
open Go.RowKit

theorem lexc18 : ((Tryd.f27.body).bind (regOf 1)).map (fun ops => (List.range' (4 * 18) (min 4 (107 - 4 * 18))).all (stepB 107 ops)) = some true := by kernel_rfl

theorem lexc19 : ((Tryd.f27.body).bind (regOf 1)).map (fun ops => (List.range' (4 * 19) (min 4 (107 - 4 * 19))).all (stepB 107 ops)) = some true := by kernel_rfl

theorem lexc20 : ((Tryd.f27.body).bind (regOf 1)).map (fun ops => (List.range' (4 * 20) (min 4 (107 - 4 * 20))).all (stepB 107 ops)) = some true := by kernel_rfl

theorem lexc21 : ((Tryd.f27.body).bind (regOf 1)).map (fun ops => (List.range' (4 * 21) (min 4 (107 - 4 * 21))).all (stepB 107 ops)) = some true := by kernel_rfl

theorem lexc22 : ((Tryd.f27.body).bind (regOf 1)).map (fun ops => (List.range' (4 * 22) (min 4 (107 - 4 * 22))).all (stepB 107 ops)) = some true := by kernel_rfl

theorem lexc23 : ((Tryd.f27.body).bind (regOf 1)).map (fun ops => (List.range' (4 * 23) (min 4 (107 - 4 * 23))).all (stepB 107 ops)) = some true := by kernel_rfl

theorem lexc24 : ((Tryd.f27.body).bind (regOf 1)).map (fun ops => (List.range' (4 * 24) (min 4 (107 - 4 * 24))).all (stepB 107 ops)) = some true := by kernel_rfl

theorem lexc25 : ((Tryd.f27.body).bind (regOf 1)).map (fun ops => (List.range' (4 * 25) (min 4 (107 - 4 * 25))).all (stepB 107 ops)) = some true := by kernel_rfl

theorem lexc26 : ((Tryd.f27.body).bind (regOf 1)).map (fun ops => (List.range' (4 * 26) (min 4 (107 - 4 * 26))).all (stepB 107 ops)) = some true := by kernel_rfl

end Go.Proofs.YtpjgdbeekmoedaaDoor
