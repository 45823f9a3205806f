/- Regions that draw their order, once more: two operations that may come in either order. Nothing of the program is named here. -/
import Derived.Test.YtgeiagndpfdnlaaTake8
namespace Go.Proofs.Ytgeiagndpfdnlaa
open Go.RowKit
set_option linter.unusedVariables false

section
variable {P : Program} {Q : Exit → Act → World → Prop} {I : World → Prop} {X : List Nat}
theorem inv_two (i j : Nat) {l ri rj : List Oper} {oi oj : Oper} {fuel : Nat} {listed : Array Bool} {a : Act} {w : World} (hr : Region.ready .any l.toArray listed = [i, j]) (hdi : l.drop i = oi :: ri) (hdj : l.drop j = oj :: rj)
    (hi : wpList P l.toArray (Then (fun a' w' => I w' ∧ wpAnyJ P l.toArray Q I X fuel (listed.setIfInBounds i true) a' w') Q) [oi] a w)
    (hj : wpList P l.toArray (Then (fun a' w' => I w' ∧ wpAnyJ P l.toArray Q I X fuel (listed.setIfInBounds j true) a' w') Q) [oj] a w) : wpAnyJ P l.toArray Q I X (fuel + 1) listed a w :=
  ⟨fun h0 => (by rw [hr] at h0; cases h0), (by
    rw [hr]
    intro k hk
    simp only [List.mem_cons, List.not_mem_nil, or_false] at hk
    rcases hk with rfl | rfl
    · exact wpOp_mono (fun _ _ h => .inr h) (op_list k hdi hi)
    · exact wpOp_mono (fun _ _ h => .inr h) (op_list k hdj hj))⟩
end
end Go.Proofs.Ytgeiagndpfdnlaa
