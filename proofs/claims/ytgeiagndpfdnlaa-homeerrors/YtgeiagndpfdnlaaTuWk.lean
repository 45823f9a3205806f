/- The example that each of chapter 10's laws looks at. Conditions: as each theorem states them. -/
import Derived.Test.YtgeiagndpfdnlaaTuOn
namespace Go.Proofs.Ytgeiagndpfdnlaa
open Go.RowKit Go.Maps
set_option linter.unusedVariables false
set_option maxRecDepth 20000

end Go.Proofs.Ytgeiagndpfdnlaa
