/- More of regions that draw their order: three that may come up. Nothing of the program is named here. -/
import Derived.Test.YtbllhjhlkngchaaTake3
namespace Go.Proofs.Ytbllhjhlkngchaa
open Go.RowKit
set_option linter.unusedVariables false

section
variable {P : Program} {Q : Exit → Act → World → Prop} {w0 : World}
theorem up_three (i j k : Nat) {l ri rj rk : List Oper} {oi oj ok : Oper} {fuel : Nat} {listed : Array Bool} {a : Act} {w : World} (hr : Region.ready .any l.toArray listed = [i, j, k]) (hdi : l.drop i = oi :: ri) (hdj : l.drop j = oj :: rj) (hdk : l.drop k = ok :: rk)
    (hi : wpList P l.toArray (Then (fun a' w' => Below w0.heap.size w0 w' ∧ ∀ u : Up w', wpAnyU P .any l.toArray Q w0 fuel (listed.setIfInBounds i true) a' u.1) Q) [oi] a w)
    (hj : wpList P l.toArray (Then (fun a' w' => Below w0.heap.size w0 w' ∧ ∀ u : Up w', wpAnyU P .any l.toArray Q w0 fuel (listed.setIfInBounds j true) a' u.1) Q) [oj] a w)
    (hk : wpList P l.toArray (Then (fun a' w' => Below w0.heap.size w0 w' ∧ ∀ u : Up w', wpAnyU P .any l.toArray Q w0 fuel (listed.setIfInBounds k true) a' u.1) Q) [ok] a w) : wpAnyU P .any l.toArray Q w0 (fuel + 1) listed a w := by
  refine ⟨fun h0 => (by rw [hr] at h0; cases h0), ?_⟩
  rw [hr]
  intro q hq
  simp at hq
  rcases hq with rfl | rfl | rfl
  · exact op_list q hdi hi
  · exact op_list q hdj hj
  · exact op_list q hdk hk
end
end Go.Proofs.Ytbllhjhlkngchaa
