/- (What stood here stands in Pk0.) -/
import Derived.Test.YtgeiagndpfdnlaaPktSame
import Derived.Deep.CutBlock
namespace Go.Proofs.Ytgeiagndpfdnlaa
open Go.RowKit
set_option linter.unusedVariables false
set_option maxRecDepth 20000

end Go.Proofs.Ytgeiagndpfdnlaa
