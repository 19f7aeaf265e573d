import Derived.Test.YtfpghoaidiifbaaDoorITurn
import Derived.Test.YtfpghoaidiifbaaDoorTTexts
set_option linter.unusedVariables false
set_option linter.unusedSimpArgs false
namespace Go.Proofs.YtfpghoaidiifbaaDoor
open Go.RowKit
end Go.Proofs.YtfpghoaidiifbaaDoor
