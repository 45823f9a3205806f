/- The contracts of package plan: Check, HomeOf, SetOf, LineOf, Addrs. Conditions: as each theorem states them. -/
import Derived.Test.YtfobgkkmbacfjaaCfg0
namespace Go.Proofs.Ytfobgkkmbacfjaa
open Go.RowKit
set_option linter.unusedVariables false
set_option maxRecDepth 20000

def inB (m n : Int) : Bool := decide (1 ≤ n) && decide (n ≤ m)
theorem inB_of {m n : Int} (h : inB m n = true) : 1 ≤ n ∧ n ≤ m := by simpa [inB] using h

/-- May a configuration be? -/
def chk (n l k s y o i : Int) (len : Nat) : Bool :=
  inB 6 n && inB 8 l && inB 4 k && inB 4 s && inB 3 y && inB 8 o && inB 8 i && decide ((len : Int) ≤ l * k)

def errI (b : Bool) : Int := if b then 0 else 1
theorem chk_none : chk 0 0 0 0 0 0 0 0 = false := by decide
theorem chk_ones : chk 1 1 1 1 1 1 1 0 = true := by decide
end Go.Proofs.Ytfobgkkmbacfjaa
