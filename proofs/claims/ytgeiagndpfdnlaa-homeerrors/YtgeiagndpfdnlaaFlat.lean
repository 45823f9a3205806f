/- Rows of structs, cell by cell (flat); rows that are written in place. Nothing of the program is named here. -/
import Derived.Test.YtgeiagndpfdnlaaApp
namespace Go.Proofs.Ytgeiagndpfdnlaa
open Go.RowKit
set_option linter.unusedVariables false

/-- A row of structs, cell by cell. -/
def flat {α : Type} (c : α → List Value) (R : List α) : List Value := R.flatMap c
section
variable {α : Type} {c : α → List Value} {k : Nat}
theorem flat_nil : flat c [] = [] := rfl
theorem flat_cons (r : α) (R : List α) : flat c (r :: R) = c r ++ flat c R := rfl
theorem flat_append (R T : List α) : flat c (R ++ T) = flat c R ++ flat c T := by simp [flat]
theorem flat_one (r : α) : flat c [r] = c r := by simp [flat]
theorem flat_len (hc : ∀ x, (c x).length = k) (R : List α) : (flat c R).length = R.length * k := by
  induction R with
  | nil => simp [flat]
  | cons o p ih => rw [flat_cons, List.length_append, hc, ih, List.length_cons, Nat.add_mul]; omega
theorem flat_get (hc : ∀ x, (c x).length = k) {R : List α} {i : Nat} {r : α} (h : R[i]? = some r) (j : Nat) (hj : j < k) : (flat c R)[i * k + j]? = (c r)[j]? := by
  induction R generalizing i with
  | nil => simp at h
  | cons x R ih =>
    rw [flat_cons]
    cases i with
    | zero => simp at h; subst h; rw [Nat.zero_mul, Nat.zero_add, List.getElem?_append_left (by rw [hc]; exact hj)]
    | succ i =>
      have h' : R[i]? = some r := by simpa using h
      have e : (i + 1) * k = i * k + k := by rw [Nat.add_mul, Nat.one_mul]
      rw [List.getElem?_append_right (by rw [hc]; omega), hc, ← ih h']
      congr 1
      omega
theorem flat_take (hc : ∀ x, (c x).length = k) (R : List α) (i : Nat) : (flat c R).take (i * k) = flat c (R.take i) := by
  induction R generalizing i with
  | nil => simp [flat]
  | cons x R ih =>
    cases i with
    | zero => simp [flat]
    | succ i =>
      rw [List.take_succ_cons, flat_cons, flat_cons, ← ih i, List.take_append, hc, List.take_of_length_le (by rw [hc, Nat.add_mul, Nat.one_mul]; omega)]
      congr 2
      rw [Nat.add_mul, Nat.one_mul]; omega
theorem flat_drop (hc : ∀ x, (c x).length = k) (R : List α) (i : Nat) : (flat c R).drop (i * k) = flat c (R.drop i) := by
  induction R generalizing i with
  | nil => simp [flat]
  | cons x R ih =>
    cases i with
    | zero => simp
    | succ i =>
      rw [List.drop_succ_cons, flat_cons, ← ih i, List.drop_append, hc, List.drop_eq_nil_of_le (by rw [hc, Nat.add_mul, Nat.one_mul]; omega), List.nil_append]
      congr 1
      rw [Nat.add_mul, Nat.one_mul]; omega
theorem flat_onecell {R : List α} (h : ∀ r ∈ R, ∀ u ∈ c r, u.oneCell' = true) : ∀ u ∈ flat c R, u.oneCell' = true := by
  intro u hu
  obtain ⟨r, hr, hu'⟩ := List.mem_flatMap.1 hu
  exact h r hr u hu'
/-- One cell of one element is another one. -/
theorem flat_set (hc : ∀ x, (c x).length = k) {R : List α} {i j : Nat} {r r' : α} {u : Value} (h : R[i]? = some r) (hj : j < k) (hr : c r' = (c r).set j u) : (flat c R).set (i * k + j) u = flat c (R.set i r') := by
  induction R generalizing i with
  | nil => simp at h
  | cons x R ih =>
    cases i with
    | zero =>
      simp at h
      subst h
      rw [Nat.zero_mul, Nat.zero_add, List.set_cons_zero, flat_cons, flat_cons, hr, List.set_append_left _ _ (by rw [hc]; exact hj)]
    | succ i =>
      have h' : R[i]? = some r := by simpa using h
      have e : (i + 1) * k + j = k + (i * k + j) := by rw [Nat.add_mul, Nat.one_mul]; omega
      rw [List.set_cons_succ, flat_cons, flat_cons, ← ih h', e, List.set_append_right _ _ (by rw [hc]; omega), hc]
      congr 2
      omega
end
/-- One cell of a row is written. -/
theorem Rw.set {w : World} {S : Nat → Prop} {b o n cap es i : Nat} {vs : List Value} (h : Rw w S (some ⟨b, o, none⟩) n cap es vs) (hi : i < n * es) (u : Value) : Rw (w.setCell ⟨b, o + i, none⟩ u) S (some ⟨b, o, none⟩) n cap es (vs.set i u) := by
  refine ⟨by rw [List.length_set]; exact h.len, h.le, h.max, fun e => (by cases e), ?_⟩
  rcases h.row with h0 | ⟨b', o', e, hs, hb, hc, hf⟩
  · exact .inl h0
  · simp at e
    obtain ⟨rfl, rfl⟩ := e
    have hcap : i < cap * es := Nat.lt_of_lt_of_le hi (Nat.mul_le_mul_right _ h.le)
    refine .inr ⟨b, o, rfl, hs, by simpa using hb, fun j v hj => ?_, fun j hj => ?_⟩
    · rw [List.getElem?_set] at hj
      by_cases e : i = j
      · subst e
        rw [if_pos rfl] at hj
        split at hj
        · obtain rfl := Option.some.inj hj
          exact World.cell?_setCell_same' _ _ _ (hf i hcap).1
        · cases hj
      · rw [if_neg e] at hj
        rw [World.cell?_setCell_other _ _ _ _ (by simp <;> omega)]
        exact hc j v hj
    · rw [World.frozen?_setCell]
      refine ⟨?_, (hf j hj).2⟩
      by_cases e : i = j
      · subst e
        rw [World.cell?_setCell_same' _ _ _ (hf i hcap).1]
        rfl
      · rw [World.cell?_setCell_other _ _ _ _ (by simp <;> omega)]
        exact (hf j hj).1
end Go.Proofs.Ytgeiagndpfdnlaa
