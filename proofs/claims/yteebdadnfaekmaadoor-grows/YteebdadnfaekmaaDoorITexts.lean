import Derived.Test.YteebdadnfaekmaaDoorITurn
import Derived.Test.YteebdadnfaekmaaDoorTTexts
set_option linter.unusedVariables false
set_option linter.unusedSimpArgs false
namespace Go.Proofs.YteebdadnfaekmaaDoor
open Go.RowKit
end Go.Proofs.YteebdadnfaekmaaDoor
