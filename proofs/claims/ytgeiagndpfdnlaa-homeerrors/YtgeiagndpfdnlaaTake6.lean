/- Regions that draw their order, make memory and then write what was there: as Take, but of the operations named in X, which wait for what is taken first, nothing is asked. Nothing of the program is named here. -/
import Derived.Test.YtgeiagndpfdnlaaTake3
namespace Go.Proofs.Ytgeiagndpfdnlaa
open Go.RowKit
set_option linter.unusedVariables false

section
variable {P : Program} {ops : Array Oper} {Q : Exit → Act → World → Prop} {w0 : World} {X : List Nat}

/-- Whatever order is picked from here on; behind each operation but those of X the world is above w0, and may grow. -/
def wpAnyX (P : Program) (ops : Array Oper) (Q : Exit → Act → World → Prop) (w0 : World) (X : List Nat) : Nat → Array Bool → Act → World → Prop
  | 0, listed, a, w => Region.ready .any ops listed = [] ∧ Q .normal a w
  | fuel + 1, listed, a, w =>
    (Region.ready .any ops listed = [] → Q .normal a w) ∧
    ∀ i ∈ Region.ready .any ops listed, wpOp P ops Q i (fun a' w' => (X.contains i = true ∧ wpAny P .any ops Q fuel (listed.setIfInBounds i true) a' w') ∨ (Below w0.heap.size w0 w' ∧ ∀ u : Up w', wpAnyX P ops Q w0 X fuel (listed.setIfInBounds i true) a' u.1)) a w
theorem wpAny_of_x : ∀ (fuel : Nat) (listed : Array Bool) (a : Act) (w : World), wpAnyX P ops Q w0 X fuel listed a w → wpAny P .any ops Q fuel listed a w
  | 0, _, _, _, h => h
  | fuel + 1, _, _, _, h => ⟨h.1, fun i hi => wpOp_mono (fun a' w' h' => h'.elim (fun h => h.2) fun h' => wpAny_of_x fuel _ a' w' (h'.2 (Up.self _))) (h.2 i hi)⟩
/-- Operation j waits for i. -/
def waitsOn (ops : Array Oper) (j i : Nat) : Bool := ((ops[j]?).map fun o => o.after.any fun e => Region.binds .any e && e.on == i).getD false
theorem waitsOn_spec {j i : Nat} (h : waitsOn ops j i = true) {oj : Oper} (hj : ops[j]? = some oj) : ∃ e ∈ oj.after, Region.binds .any e = true ∧ e.on = i := by
  unfold waitsOn at h
  rw [hj] at h
  simp at h
  obtain ⟨k, hk, h2, h3⟩ := h
  exact ⟨oj.after[k], Array.getElem_mem hk, h2, h3⟩
theorem wpAnyX_first {i : Nat} {oi : Oper} {v : Value} (hwa : X.all (fun j => waitsOn ops j i) = true) (hi : ops[i]? = some oi) (hsel : ∀ (j : Nat) (o : Oper) cs b, ops[j]? = some o → o.op ≠ .select cs b)
    (hQ : ∀ c a w, Q (.panic c) (a.put oi.dst v) w → Q (.panic c) a w) :
    ∀ (fuel : Nat) (listed : Array Bool) (a : Act) (W : Up w0),
      (∀ j oj, ops[j]? = some oj → j ≠ i → listed.getD j true = false → (∀ e ∈ oj.after, Region.binds .any e = true → e.on ≠ i) → oi.apart ops oj = true) →
      i ∈ Region.ready .any ops listed → Mild P ops w0 oi v a →
      (∀ u : Up W.1, wpAnyX P ops Q w0 X fuel (listed.setIfInBounds i true) (a.put oi.dst v) u.1) → wpAnyX P ops Q w0 X (fuel + 1) listed a W.1 := by
  intro fuel
  induction fuel with
  | zero =>
    intro listed a W _ hr hy H
    refine ⟨fun h => (by rw [h] at hr; cases hr), fun j hj => ?_⟩
    by_cases hji : j = i
    · subst hji; exact hy.wpOp hi W fun u => .inr ⟨(W.trans u).2, fun u' => H (u.trans u')⟩
    · have := ready_mono hj hji
      rw [(H (Up.self _)).1] at this
      cases this
  | succ fuel ih =>
    intro listed a W hfree hr hy H
    refine ⟨fun h => (by rw [h] at hr; cases hr), fun j hj => ?_⟩
    by_cases hji : j = i
    · subst hji; exact hy.wpOp hi W fun u => .inr ⟨(W.trans u).2, fun u' => H (u.trans u')⟩
    · have h1 := (H (Up.self _)).2 j (ready_mono hj hji)
      obtain ⟨hjun, oj, hoj, hall⟩ := mem_ready.1 hj
      have hnot : ∀ e ∈ oj.after, Region.binds .any e = true → e.on ≠ i := fun e he hb heq => by
        have g1 := hall e he hb
        have g0 := (mem_ready.1 hr).1
        rw [heq] at g1
        rcases Nat.lt_or_ge i listed.size with h' | h'
        · simp [h'] at g0 g1; rw [g0] at g1; cases g1
        · simp [Array.getElem?_eq_none h'] at g1
      have h2 := wpOp_mild hoj (hfree j oj hoj hji hjun hnot) (fun cs b => hsel i oi cs b hi) (fun cs b => hsel j oj cs b hoj) hQ hy h1
      have hfree' : ∀ k ok, ops[k]? = some ok → k ≠ i → (listed.setIfInBounds j true).getD k true = false →
          (∀ e ∈ ok.after, Region.binds .any e = true → e.on ≠ i) → oi.apart ops ok = true := fun k ok hk hki hun hno => by
        refine hfree k ok hk hki ?_ hno
        by_cases hjk : j = k
        · subst hjk; exact hjun
        · rw [getD_set_ne true hjk] at hun; exact hun
      have hri : i ∈ Region.ready .any ops (listed.setIfInBounds j true) := ready_mono hr (Ne.symm hji)
      have hjx : X.contains j = false := by
        cases hc : X.contains j
        · rfl
        · exfalso
          have hm : j ∈ X := by simpa using hc
          obtain ⟨e, he, hb, hon⟩ := waitsOn_spec (List.all_eq_true.1 hwa j hm) hoj
          exact hnot e he hb hon
      refine wpOp_mono (fun a' w' h3 => ?_) h2
      obtain ⟨hy', h3⟩ := h3
      rcases h3 with ⟨hx, _⟩ | ⟨hB, h3⟩
      · rw [hjx] at hx; cases hx
      refine .inr ⟨hB, fun u => ?_⟩
      refine ih (listed.setIfInBounds j true) a' ⟨u.1, next hB u.2⟩ hfree' hri hy' fun u' => ?_
      rw [Array.setIfInBounds_comm _ _ hji]
      exact h3 (u.trans u')

/-- The region, from here on, in every world above w0. -/
def MildX (P : Program) (ops : Array Oper) (Q : Exit → Act → World → Prop) (w0 : World) (X : List Nat) (fuel : Nat) (listed : Array Bool) (a : Act) : Prop :=
  ∀ W : Up w0, wpAnyX P ops Q w0 X fuel listed a W.1
theorem any_mildx (X : List Nat) {fuel : Nat} {listed : Array Bool} {a : Act} {w : World} (h : MildX P ops Q w X fuel listed a) : wpAny P .any ops Q fuel listed a w :=
  wpAny_of_x (w0 := w) (X := X) _ _ _ _ (h (Up.self w))
theorem mildx_take (i : Nat) {l rest : List Oper} {oi : Oper} {v : Value} {fuel : Nat} {listed : Array Bool} {a : Act} (hd : l.drop i = oi :: rest) (hs : Region.noSelect l.toArray = true) (hwa : X.all (fun j => waitsOn l.toArray j i) = true)
    (hf : Region.free .any l.toArray listed i = true) (hr : (Region.ready .any l.toArray listed).contains i = true) (hQ : ∀ c a w, Q (.panic c) (a.put oi.dst v) w → Q (.panic c) a w)
    (hw : Region.wanted oi (yielded l.toArray a.tmps) = true) (hy : ∀ (W : Up w0) (K : Act → Prop), K (a.put oi.dst v) → oi.quiet P a (fun w' => ∃ u : Up W.1, w' = u.1) K)
    (h : MildX P l.toArray Q w0 X fuel (listed.setIfInBounds i true) (a.put oi.dst v)) : MildX P l.toArray Q w0 X (fuel + 1) listed a := fun W =>
  wpAnyX_first hwa (of_drop hd) (Region.noSelect_spec hs) hQ fuel listed a W (Region.free_spec (of_drop hd) hf) (by simpa using hr) (.inl ⟨hw, hy⟩) fun u => h (W.trans u)
/-- One of the operations that only make memory, alone. -/
theorem upx_list (i : Nat) {l rest : List Oper} {oi : Oper} {fuel : Nat} {listed : Array Bool} {a : Act} {w : World} (hr : Region.ready .any l.toArray listed = [i]) (hd : l.drop i = oi :: rest)
    (h : wpList P l.toArray (Then (fun a' w' => Below w0.heap.size w0 w' ∧ ∀ u : Up w', wpAnyX P l.toArray Q w0 X fuel (listed.setIfInBounds i true) a' u.1) Q) [oi] a w) : wpAnyX P l.toArray Q w0 X (fuel + 1) listed a w :=
  ⟨fun h0 => (by rw [hr] at h0; cases h0), (by rw [hr]; intro j hj; rw [List.mem_singleton] at hj; subst hj; exact wpOp_mono (fun _ _ h => .inr h) (op_list j hd h))⟩
theorem upx_write (i : Nat) {l rest : List Oper} {oi : Oper} {fuel : Nat} {listed : Array Bool} {a : Act} {w : World} (hr : Region.ready .any l.toArray listed = [i]) (hx : X.contains i = true) (hd : l.drop i = oi :: rest)
    (h : wpList P l.toArray (Then (fun a' w' => wpAny P .any l.toArray Q fuel (listed.setIfInBounds i true) a' w') Q) [oi] a w) : wpAnyX P l.toArray Q w0 X (fuel + 1) listed a w :=
  ⟨fun h0 => (by rw [hr] at h0; cases h0), (by rw [hr]; intro j hj; rw [List.mem_singleton] at hj; subst hj; exact wpOp_mono (fun _ _ h => .inl ⟨hx, h⟩) (op_list j hd h))⟩
end
end Go.Proofs.Ytgeiagndpfdnlaa
