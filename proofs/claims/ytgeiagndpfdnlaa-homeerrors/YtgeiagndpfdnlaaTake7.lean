/- Regions that draw their order, make memory and then write what was there: as Take6, where what comes last waits for what is taken first by way of others (Y). Nothing of the program is named here. -/
import Derived.Test.YtgeiagndpfdnlaaTake6
namespace Go.Proofs.Ytgeiagndpfdnlaa
open Go.RowKit
set_option linter.unusedVariables false

section
variable {P : Program} {ops : Array Oper} {Q : Exit → Act → World → Prop} {w0 : World} {X : List Nat}

theorem wpAnyX_firstY {Y : List Nat} {i : Nat} {oi : Oper} {v : Value} (hXY : X.all (fun j => Y.contains j) = true) (hi : ops[i]? = some oi) (hsel : ∀ (j : Nat) (o : Oper) cs b, ops[j]? = some o → o.op ≠ .select cs b)
    (hQ : ∀ c a w, Q (.panic c) (a.put oi.dst v) w → Q (.panic c) a w) :
    ∀ (fuel : Nat) (listed : Array Bool) (a : Act) (W : Up w0), (∀ j ∈ Y, listed.getD j true = false ∧ (waitsOn ops j i = true ∨ ∃ k ∈ Y, waitsOn ops j k = true)) →
      (∀ j oj, ops[j]? = some oj → j ≠ i → listed.getD j true = false → (∀ e ∈ oj.after, Region.binds .any e = true → e.on ≠ i) → oi.apart ops oj = true) →
      i ∈ Region.ready .any ops listed → Mild P ops w0 oi v a →
      (∀ u : Up W.1, wpAnyX P ops Q w0 X fuel (listed.setIfInBounds i true) (a.put oi.dst v) u.1) → wpAnyX P ops Q w0 X (fuel + 1) listed a W.1 := by
  intro fuel
  induction fuel with
  | zero =>
    intro listed a W _ _ hr hy H
    refine ⟨fun h => (by rw [h] at hr; cases hr), fun j hj => ?_⟩
    by_cases hji : j = i
    · subst hji; exact hy.wpOp hi W fun u => .inr ⟨(W.trans u).2, fun u' => H (u.trans u')⟩
    · have := ready_mono hj hji
      rw [(H (Up.self _)).1] at this
      cases this
  | succ fuel ih =>
    intro listed a W hY hfree hr hy H
    refine ⟨fun h => (by rw [h] at hr; cases hr), fun j hj => ?_⟩
    by_cases hji : j = i
    · subst hji; exact hy.wpOp hi W fun u => .inr ⟨(W.trans u).2, fun u' => H (u.trans u')⟩
    · have h1 := (H (Up.self _)).2 j (ready_mono hj hji)
      obtain ⟨hjun, oj, hoj, hall⟩ := mem_ready.1 hj
      have hnot : ∀ e ∈ oj.after, Region.binds .any e = true → e.on ≠ i := fun e he hb heq => by
        have g1 := hall e he hb
        have g0 := (mem_ready.1 hr).1
        rw [heq] at g1
        rcases Nat.lt_or_ge i listed.size with h' | h'
        · simp [h'] at g0 g1; rw [g0] at g1; cases g1
        · simp [Array.getElem?_eq_none h'] at g1
      have h2 := wpOp_mild hoj (hfree j oj hoj hji hjun hnot) (fun cs b => hsel i oi cs b hi) (fun cs b => hsel j oj cs b hoj) hQ hy h1
      have hfree' : ∀ k ok, ops[k]? = some ok → k ≠ i → (listed.setIfInBounds j true).getD k true = false →
          (∀ e ∈ ok.after, Region.binds .any e = true → e.on ≠ i) → oi.apart ops ok = true := fun k ok hk hki hun hno => by
        refine hfree k ok hk hki ?_ hno
        by_cases hjk : j = k
        · subst hjk; exact hjun
        · rw [getD_set_ne true hjk] at hun; exact hun
      have hri : i ∈ Region.ready .any ops (listed.setIfInBounds j true) := ready_mono hr (Ne.symm hji)
      have hjY : j ∉ Y := fun hm => by
        obtain ⟨_, hw⟩ := hY j hm
        rcases hw with hw | ⟨k, hk, hw⟩
        · obtain ⟨e, he, hb, hon⟩ := waitsOn_spec hw hoj
          exact hnot e he hb hon
        · obtain ⟨e, he, hb, hon⟩ := waitsOn_spec hw hoj
          have g1 := hall e he hb
          have g0 := (hY k hk).1
          rw [hon] at g1
          rcases Nat.lt_or_ge k listed.size with h' | h'
          · simp [h'] at g0 g1; rw [g0] at g1; cases g1
          · simp [Array.getElem?_eq_none h'] at g1
      have hjx : X.contains j = false := by
        cases hc : X.contains j
        · rfl
        · exfalso
          have hm : j ∈ X := by simpa using hc
          exact hjY (by simpa using List.all_eq_true.1 hXY j hm)
      have hY' : ∀ k ∈ Y, (listed.setIfInBounds j true).getD k true = false ∧ (waitsOn ops k i = true ∨ ∃ k' ∈ Y, waitsOn ops k k' = true) := fun k hk => by
        obtain ⟨g0, g1⟩ := hY k hk
        exact ⟨by rw [getD_set_ne true (fun e => hjY (by rw [e]; exact hk))]; exact g0, g1⟩
      refine wpOp_mono (fun a' w' h3 => ?_) h2
      obtain ⟨hy', h3⟩ := h3
      rcases h3 with ⟨hx, _⟩ | ⟨hB, h3⟩
      · rw [hjx] at hx; cases hx
      refine .inr ⟨hB, fun u => ?_⟩
      refine ih (listed.setIfInBounds j true) a' ⟨u.1, next hB u.2⟩ hY' hfree' hri hy' fun u' => ?_
      rw [Array.setIfInBounds_comm _ _ hji]
      exact h3 (u.trans u')

/-- All of Y are still to come, and each waits for i, or for another of Y. -/
def waitsY (ops : Array Oper) (Y : List Nat) (listed : Array Bool) (i : Nat) : Bool := Y.all fun j => !listed.getD j true && (waitsOn ops j i || Y.any fun k => waitsOn ops j k)
theorem mildy_take (Y : List Nat) (i : Nat) {l rest : List Oper} {oi : Oper} {v : Value} {fuel : Nat} {listed : Array Bool} {a : Act} (hd : l.drop i = oi :: rest) (hs : Region.noSelect l.toArray = true) (hXY : X.all (fun j => Y.contains j) = true) (hwa : waitsY l.toArray Y listed i = true)
    (hf : Region.free .any l.toArray listed i = true) (hr : (Region.ready .any l.toArray listed).contains i = true) (hQ : ∀ c a w, Q (.panic c) (a.put oi.dst v) w → Q (.panic c) a w)
    (hw : Region.wanted oi (yielded l.toArray a.tmps) = true) (hy : ∀ (W : Up w0) (K : Act → Prop), K (a.put oi.dst v) → oi.quiet P a (fun w' => ∃ u : Up W.1, w' = u.1) K)
    (h : MildX P l.toArray Q w0 X fuel (listed.setIfInBounds i true) (a.put oi.dst v)) : MildX P l.toArray Q w0 X (fuel + 1) listed a := fun W =>
  wpAnyX_firstY hXY (of_drop hd) (Region.noSelect_spec hs) hQ fuel listed a W (fun j hj => by
    have := List.all_eq_true.1 hwa j hj
    simp only [Bool.and_eq_true, Bool.not_eq_true', Bool.or_eq_true] at this
    refine ⟨this.1, this.2.imp id fun h => ?_⟩
    obtain ⟨k, hk, h⟩ := List.any_eq_true.1 h
    exact ⟨k, hk, h⟩) (Region.free_spec (of_drop hd) hf) (by simpa using hr) (.inl ⟨hw, hy⟩) fun u => h (W.trans u)
theorem mildx_done {fuel : Nat} {listed : Array Bool} {a : Act} (hr : Region.ready .any ops listed = []) (h : ∀ W : Up w0, Q .normal a W.1) : MildX P ops Q w0 X fuel listed a := fun W => by
  cases fuel with
  | zero => exact ⟨hr, h W⟩
  | succ n => exact ⟨fun _ => h W, by rw [hr]; intro i hi; cases hi⟩
end
end Go.Proofs.Ytgeiagndpfdnlaa
