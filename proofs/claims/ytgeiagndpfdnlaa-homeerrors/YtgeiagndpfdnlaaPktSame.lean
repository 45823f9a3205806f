/- The contracts of slices.Equal over whole numbers and of packet.Same. Conditions: as each theorem states them. -/
import Derived.Test.YtgeiagndpfdnlaaPktPack
namespace Go.Proofs.Ytgeiagndpfdnlaa
open Go.RowKit
set_option linter.unusedVariables false
set_option maxRecDepth 20000

end Go.Proofs.Ytgeiagndpfdnlaa
