import Derived.Test.YtemjmlogcamndaaDoorITurn
import Derived.Test.YtemjmlogcamndaaDoorTTexts
set_option linter.unusedVariables false
set_option linter.unusedSimpArgs false
namespace Go.Proofs.YtemjmlogcamndaaDoor
open Go.RowKit
end Go.Proofs.YtemjmlogcamndaaDoor
