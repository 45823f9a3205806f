/- memdir's Lines: the keys of its map, sorted. Conditions: as each theorem states them. -/
import Derived.Test.YtgeiagndpfdnlaaCLib
import Derived.Test.YtgeiagndpfdnlaaMdOn
namespace Go.Proofs.Ytgeiagndpfdnlaa
open Go.RowKit Go.Maps Go.Sort Go.Shelf
set_option linter.unusedVariables false
set_option maxRecDepth 20000

end Go.Proofs.Ytgeiagndpfdnlaa
