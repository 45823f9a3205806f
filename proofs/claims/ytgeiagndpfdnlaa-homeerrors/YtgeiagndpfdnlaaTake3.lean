/- Regions that draw their order, order by order: what looks at no memory is taken first. Nothing of the program is named here. -/
import Derived.Test.YtgeiagndpfdnlaaTake2
namespace Go.Proofs.Ytgeiagndpfdnlaa
open Go.RowKit
set_option linter.unusedVariables false

section
variable {P : Program} {Q : Exit → Act → World → Prop}

theorem wp_region_orders {id : Nat} {a : Act} {w : World} {l : List Oper} (n : Nat) (hn : l.length = n) (hm : P.follows .mixedOrders = true) (h : wpAny P .any l.toArray Q n (Array.replicate n false) a w.drew) : (Code.region id l.toArray true).wp P Q a w := by
  subst hn
  refine wp_region_any hm ?_
  simpa using h
theorem any_take (i : Nat) (v : Value) {l rest : List Oper} {oi : Oper} {fuel : Nat} {listed : Array Bool} {a : Act} {w : World} (hd : l.drop i = oi :: rest) (hs : Region.noSelect l.toArray = true)
    (hf : Region.free .any l.toArray listed i = true) (hr : (Region.ready .any l.toArray listed).contains i = true) (hQ : ∀ c a w, Q (.panic c) (a.put oi.dst v) w → Q (.panic c) a w)
    (hw : Region.wanted oi (yielded l.toArray a.tmps) = true) (hy : ∀ w, (execOp a.eval oi).run P w = .ok (.value v) w)
    (h : wpAny P .any l.toArray Q fuel (listed.setIfInBounds i true) (a.put oi.dst v) w) : wpAny P .any l.toArray Q (fuel + 1) listed a w :=
  wpAny_take (of_drop hd) hs hf hr hQ (.inl ⟨hw, hy⟩) h
theorem op_list (q : Nat) {l rq : List Oper} {oq : Oper} {K : Act → World → Prop} {a : Act} {w : World} (hd : l.drop q = oq :: rq) (h : wpList P l.toArray (Then K Q) [oq] a w) : wpOp P l.toArray Q q K a w := by
  have hi := of_drop hd
  unfold wpOp
  simp only [hi]
  unfold wpList at h
  by_cases hw : Region.wanted oq (yielded l.toArray a.tmps) = true
  · rw [if_pos hw] at h ⊢
    refine h.imp (fun h => ?_) id
    unfold Oper.wp at *
    revert h
    generalize (execOp a.eval oq).run P w = r
    intro h
    rcases r with ⟨n, w'⟩ | ⟨x, w'⟩
    · cases n with
      | enter f args =>
        exact Calls.mono h fun e w'' he => by
          cases e <;> exact he
      | _ => exact h
    · cases x <;> exact h
  · rw [if_neg hw] at h ⊢
    exact h
theorem any_list (i : Nat) {l rest : List Oper} {oi : Oper} {fuel : Nat} {listed : Array Bool} {a : Act} {w : World} (hr : Region.ready .any l.toArray listed = [i]) (hd : l.drop i = oi :: rest)
    (h : wpList P l.toArray (Then (fun a' w' => wpAny P .any l.toArray Q fuel (listed.setIfInBounds i true) a' w') Q) [oi] a w) : wpAny P .any l.toArray Q (fuel + 1) listed a w :=
  wpAny_all hr (by simp) fun q hq => by
    rw [List.mem_singleton] at hq
    subst hq
    exact op_list q hd h
theorem any_two (i j : Nat) {l ri rj : List Oper} {oi oj : Oper} {fuel : Nat} {listed : Array Bool} {a : Act} {w : World} (hr : Region.ready .any l.toArray listed = [i, j]) (hdi : l.drop i = oi :: ri) (hdj : l.drop j = oj :: rj)
    (hi : wpList P l.toArray (Then (fun a' w' => wpAny P .any l.toArray Q fuel (listed.setIfInBounds i true) a' w') Q) [oi] a w)
    (hj : wpList P l.toArray (Then (fun a' w' => wpAny P .any l.toArray Q fuel (listed.setIfInBounds j true) a' w') Q) [oj] a w) : wpAny P .any l.toArray Q (fuel + 1) listed a w :=
  wpAny_all hr (by simp) fun q hq => by
    simp at hq
    rcases hq with rfl | rfl
    · exact op_list q hdi hi
    · exact op_list q hdj hj
theorem any_done {fuel : Nat} {l : List Oper} {listed : Array Bool} {a : Act} {w : World} (hr : Region.ready .any l.toArray listed = []) (h : Q .normal a w) : wpAny P .any l.toArray Q fuel listed a w := wpAny_done hr h fuel
theorem then_n {K : Act → World → Prop} {a : Act} {w : World} (h : K a w) : Then K Q .normal a w := h
end
end Go.Proofs.Ytgeiagndpfdnlaa
