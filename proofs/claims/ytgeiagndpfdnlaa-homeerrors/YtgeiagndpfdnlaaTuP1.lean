/- Turns on plain data, as functions: who has lines when one is let go (relO), the next one for a line (nextW), who waits then (nextQ). Nothing of the program is named here. -/
import Derived.Test.YtgeiagndpfdnlaaTuMath
namespace Go.Proofs.Ytgeiagndpfdnlaa
open Go.RowKit Go.Maps
set_option linter.unusedVariables false

/-- Ask: whether the line is free; who has which line, who waits then. -/
def askB (o : List (Int × Int)) (q : List Wr) (l : Int) : Bool := decide (ownT o l = -1 ∧ waitT q l = [])
def askO (o : List (Int × Int)) (q : List Wr) (l w : Int) : List (Int × Int) := if askB o q l = true then o ++ [(l, w)] else o
def askQ (o : List (Int × Int)) (q : List Wr) (l w d : Int) : List Wr := if askB o q l = true then q else q ++ [⟨l, w, d⟩]
/-- A line is let go. -/
def relO (o : List (Int × Int)) (l : Int) : List (Int × Int) := o.filter (fun p => decide (p.1 ≠ l))
theorem erase_rel {o : List (Int × Int)} (h : OkT o) {k : Nat} {l v : Int} (hk : o[k]? = some (l, v)) : o.eraseIdx k = relO o l := by
  replace h := h.1
  unfold relO
  induction o generalizing k with
  | nil => simp at hk
  | cons a o ih =>
    have ha : ∀ b ∈ o, a.1 ≠ b.1 := fun b hb => List.rel_of_pairwise_cons h hb
    cases k with
    | zero =>
      simp at hk
      subst hk
      rw [List.eraseIdx_cons_zero, List.filter_cons_of_neg (by simp)]
      exact (List.filter_eq_self.2 (fun b hb => by have := ha b hb; simp; exact fun e => this e.symm)).symm
    | succ k =>
      have hk' : o[k]? = some (l, v) := by simpa using hk
      have hal : a.1 ≠ l := ha _ (List.mem_of_getElem? hk')
      rw [List.eraseIdx_cons_succ, List.filter_cons_of_pos (by simpa using hal), ih hk' (List.Pairwise.of_cons h)]
/-- Where the owner of a line stands. -/
theorem own_place {o : List (Int × Int)} (h : OkT o) {l v : Int} (hv : 0 ≤ v) (hl : ownT o l = v) : ∃ k : Nat, o[k]? = some (l, v) ∧ ∀ (j : Nat) y, j < k → o[j]? = some y → ¬ (y.1 = l ∧ y.2 = v) := by
  have hm := own_some (o := o) (l := l) (by omega)
  rw [hl] at hm
  obtain ⟨k, hk⟩ := List.mem_iff_getElem?.1 hm
  refine ⟨k, hk, fun j y hj hy hye => ?_⟩
  obtain ⟨hj', rfl⟩ := List.getElem?_eq_some_iff.1 hy
  obtain ⟨hk', hke⟩ := List.getElem?_eq_some_iff.1 hk
  exact List.pairwise_iff_getElem.1 h.1 j k hj' hk' hj (by rw [hke]; exact hye.1)
/-- The first one who waits for a line. -/
theorem wait_place {q : List Wr} {l : Int} (h : waitT q l ≠ []) : ∃ (k : Nat) (v d : Int), q[k]? = some ⟨l, v, d⟩ ∧ ∀ (j : Nat) y, j < k → q[j]? = some y → y.l ≠ l := by
  induction q with
  | nil => exact absurd rfl h
  | cons x q ih =>
    by_cases e : x.l = l
    · obtain ⟨xl, xw, xd⟩ := x
      simp only at e
      subst e
      exact ⟨0, xw, xd, rfl, fun j y hj => by omega⟩
    · have h2 : waitT q l ≠ [] := by
        unfold waitT at h ⊢
        rw [List.filter_cons_of_neg (by simpa using e)] at h
        exact h
      obtain ⟨k, v, d, hk, hno⟩ := ih h2
      refine ⟨k + 1, v, d, by simpa using hk, fun j y hj hy => ?_⟩
      cases j with
      | zero => simp at hy; subst hy; exact e
      | succ j => exact hno j y (by omega) (by simpa using hy)
/-- The next one for a line; who waits when it has gone. -/
def nextW (q : List Wr) (l : Int) : Option Wr := q.find? (fun x => decide (x.l = l))
def nextQ : List Wr → Int → List Wr
  | [], _ => []
  | x :: q, l => if x.l = l then q else x :: nextQ q l
theorem next_place {q : List Wr} {l : Int} {x : Wr} (h : nextW q l = some x) : ∃ k : Nat, q[k]? = some x ∧ (∀ (j : Nat) y, j < k → q[j]? = some y → y.l ≠ l) ∧ nextQ q l = q.eraseIdx k := by
  unfold nextW at h
  induction q with
  | nil => cases h
  | cons a q ih =>
    rw [List.find?_cons] at h
    unfold nextQ
    by_cases e : a.l = l
    · rw [decide_eq_true e] at h
      obtain rfl := Option.some.inj h
      exact ⟨0, rfl, fun j y hj => by omega, by rw [if_pos e]; rfl⟩
    · rw [decide_eq_false e] at h
      obtain ⟨k, hk, hno, hq⟩ := ih h
      refine ⟨k + 1, by simpa using hk, fun j y hj hy => ?_, by rw [if_neg e, hq]; rfl⟩
      cases j with
      | zero => simp at hy; subst hy; exact e
      | succ j => exact hno j y (by omega) (by simpa using hy)
theorem next_some {q : List Wr} {l : Int} (h : waitT q l ≠ []) : ∃ v d, nextW q l = some ⟨l, v, d⟩ := by
  unfold nextW
  cases hf : q.find? (fun x => decide (x.l = l)) with
  | none =>
    rw [List.find?_eq_none] at hf
    exact absurd (List.filter_eq_nil_iff.2 hf) h
  | some x =>
    have h2 := of_decide_eq_true (List.find?_some (p := fun x : Wr => decide (x.l = l)) hf)
    obtain ⟨xl, xw, xd⟩ := x
    simp only at h2
    subst h2
    exact ⟨xw, xd, rfl⟩
end Go.Proofs.Ytgeiagndpfdnlaa
