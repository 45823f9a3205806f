/- More of regions that draw their order: two that may come up; what was made on the way is there from then on. Nothing of the program is named here. -/
import Derived.Test.YtgeiagndpfdnlaaTake
namespace Go.Proofs.Ytgeiagndpfdnlaa
open Go.RowKit
set_option linter.unusedVariables false

section
variable {P : Program} {ops : Array Oper} {Q : Exit → Act → World → Prop} {w0 : World}

theorem wpAnyU_low {w1 : World} (hb : Below w0.heap.size w0 w1) : ∀ (fuel : Nat) (listed : Array Bool) (a : Act) (w : World), wpAnyU P .any ops Q w1 fuel listed a w → wpAnyU P .any ops Q w0 fuel listed a w
  | 0, _, _, _, h => h
  | fuel + 1, _, _, _, h => ⟨h.1, fun i hi => wpOp_mono (fun a' w' h' => ⟨next hb h'.1, fun u => wpAnyU_low hb fuel _ a' u.1 (h'.2 u)⟩) (h.2 i hi)⟩
/-- From here on, all that is there now stays. -/
theorem up_raise {fuel : Nat} {listed : Array Bool} {a : Act} {w : World} (hb : Below w0.heap.size w0 w) (h : MildOn P ops Q w fuel listed a) : wpAnyU P .any ops Q w0 fuel listed a w :=
  wpAnyU_low hb fuel listed a w (h (Up.self w))
/-- Two may come up. -/
theorem up_two (i j : Nat) {l ri rj : List Oper} {oi oj : Oper} {fuel : Nat} {listed : Array Bool} {a : Act} {w : World} (hr : Region.ready .any l.toArray listed = [i, j]) (hdi : l.drop i = oi :: ri) (hdj : l.drop j = oj :: rj)
    (hi : wpList P l.toArray (Then (fun a' w' => Below w0.heap.size w0 w' ∧ ∀ u : Up w', wpAnyU P .any l.toArray Q w0 fuel (listed.setIfInBounds i true) a' u.1) Q) [oi] a w)
    (hj : wpList P l.toArray (Then (fun a' w' => Below w0.heap.size w0 w' ∧ ∀ u : Up w', wpAnyU P .any l.toArray Q w0 fuel (listed.setIfInBounds j true) a' u.1) Q) [oj] a w) : wpAnyU P .any l.toArray Q w0 (fuel + 1) listed a w := by
  have step : ∀ (q : Nat) {oq : Oper} {rq : List Oper}, l.drop q = oq :: rq →
      wpList P l.toArray (Then (fun a' w' => Below w0.heap.size w0 w' ∧ ∀ u : Up w', wpAnyU P .any l.toArray Q w0 fuel (listed.setIfInBounds q true) a' u.1) Q) [oq] a w →
      wpOp P l.toArray Q q (fun a' w' => Below w0.heap.size w0 w' ∧ ∀ u : Up w', wpAnyU P .any l.toArray Q w0 fuel (listed.setIfInBounds q true) a' u.1) a w := by
    intro q oq rq hd h
    have hi := of_drop hd
    unfold wpOp
    simp only [hi]
    unfold wpList at h
    by_cases hw : Region.wanted oq (yielded l.toArray a.tmps) = true
    · rw [if_pos hw] at h ⊢
      refine h.imp (fun h => ?_) id
      unfold Oper.wp at *
      revert h
      generalize (execOp a.eval oq).run P w = r
      intro h
      rcases r with ⟨n, w'⟩ | ⟨x, w'⟩
      · cases n with
        | enter f args =>
          exact Calls.mono h fun e w'' he => by
            cases e <;> exact he
        | _ => exact h
      · cases x <;> exact h
    · rw [if_neg hw] at h ⊢
      exact h
  refine ⟨fun h0 => (by rw [hr] at h0; cases h0), ?_⟩
  rw [hr]
  intro q hq
  simp at hq
  rcases hq with rfl | rfl
  · exact step q hdi hi
  · exact step q hdj hj
end
end Go.Proofs.Ytgeiagndpfdnlaa
