import Derived.Test.YthlnkolbfcoapaaDoorITurn
import Derived.Test.YthlnkolbfcoapaaDoorTTexts
set_option linter.unusedVariables false
set_option linter.unusedSimpArgs false
namespace Go.Proofs.YthlnkolbfcoapaaDoor
open Go.RowKit
end Go.Proofs.YthlnkolbfcoapaaDoor
