/- A configuration as a value. -/
import Derived.Test.YtgeiagndpfdnlaaInts
namespace Go.Proofs.Ytgeiagndpfdnlaa
open Go.RowKit

/-- A configuration, as a value. -/
@[reducible] def cfg (n l k s y o i : Int) (t : Value) : Value := .agg #[.int .i64 n, .int .i64 l, .int .i64 k, .int .i64 s, .int .i64 y, .int .i64 o, .int .i64 i, t]
end Go.Proofs.Ytgeiagndpfdnlaa
