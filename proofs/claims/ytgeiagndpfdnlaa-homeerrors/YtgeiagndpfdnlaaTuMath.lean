/- Turns on plain data: who has which line, who waits; seen line by line. Nothing of the program is named here. -/
import Derived.Test.YtgeiagndpfdnlaaIMap
namespace Go.Proofs.Ytgeiagndpfdnlaa
open Go.RowKit
set_option linter.unusedVariables false

/-- One who waits: line, who, number. -/
structure Wr where
  l : Int
  w : Int
  d : Int
/-- Who has a line (-1: nobody). -/
def ownT (o : List (Int × Int)) (l : Int) : Int := match o.find? (fun p => decide (p.1 = l)) with | some p => p.2 | none => -1
/-- Who waits for a line. -/
def waitT (q : List Wr) (l : Int) : List Wr := q.filter (fun x => decide (x.l = l))
/-- Each line has one owner at most, and that is a number. -/
def OkT (o : List (Int × Int)) : Prop := (o.Pairwise fun a b => a.1 ≠ b.1) ∧ ∀ p ∈ o, 0 ≤ p.2
theorem ok_nil : OkT [] := ⟨List.Pairwise.nil, fun _ h => by cases h⟩
theorem own_at {o : List (Int × Int)} (h : OkT o) {p : Int × Int} (hp : p ∈ o) : ownT o p.1 = p.2 := by
  replace h := h.1
  unfold ownT
  induction o with
  | nil => cases hp
  | cons a o ih =>
    rw [List.find?_cons]
    by_cases e : a.1 = p.1
    · rw [decide_eq_true e]
      rcases List.mem_cons.1 hp with rfl | hp
      · rfl
      · exact absurd e (List.rel_of_pairwise_cons h hp)
    · rw [decide_eq_false e]
      rcases List.mem_cons.1 hp with rfl | hp
      · exact absurd rfl e
      · exact ih hp (List.Pairwise.of_cons h)
theorem own_none {o : List (Int × Int)} {l : Int} (h : ∀ p ∈ o, p.1 ≠ l) : ownT o l = -1 := by
  unfold ownT
  rw [List.find?_eq_none.2 (fun p hp => by simpa using h p hp)]
theorem own_none_of {o : List (Int × Int)} (h : OkT o) {l : Int} (hl : ownT o l = -1) : ∀ p ∈ o, p.1 ≠ l := fun p hp e => by
  have h1 := own_at h hp
  have h2 := h.2 p hp
  rw [e, hl] at h1
  omega
theorem own_some {o : List (Int × Int)} {l : Int} (hl : ownT o l ≠ -1) : (l, ownT o l) ∈ o := by
  unfold ownT at *
  cases hf : o.find? (fun p => decide (p.1 = l)) with
  | none => rw [hf] at hl; exact absurd rfl hl
  | some p =>
    have h1 := List.mem_of_find?_eq_some hf
    have h2 := List.find?_some hf
    simp at h2
    subst h2
    exact h1
theorem own_ge {o : List (Int × Int)} (h : OkT o) (l : Int) : -1 ≤ ownT o l := by
  by_cases e : ownT o l = -1
  · omega
  · have := h.2 _ (own_some e); simp at this; omega
/-- A line that had nobody gets one. -/
theorem ok_snoc {o : List (Int × Int)} (h : OkT o) {l w : Int} (hl : ownT o l = -1) (hw : 0 ≤ w) : OkT (o ++ [(l, w)]) := by
  refine ⟨List.pairwise_append.2 ⟨h.1, List.pairwise_singleton _ _, fun a ha b hb => ?_⟩, fun p hp => ?_⟩
  · rw [List.mem_singleton.1 hb]; exact own_none_of h hl a ha
  · rcases List.mem_append.1 hp with hp | hp
    · exact h.2 p hp
    · rw [List.mem_singleton.1 hp]; exact hw
theorem own_snoc {o : List (Int × Int)} (h : OkT o) {l w : Int} (hl : ownT o l = -1) (hw : 0 ≤ w) (k : Int) : ownT (o ++ [(l, w)]) k = if k = l then w else ownT o k := by
  have h2 := ok_snoc h hl hw
  by_cases e : k = l
  · rw [if_pos e, e]; exact own_at h2 (p := (l, w)) (by simp)
  · rw [if_neg e]
    by_cases e2 : ownT o k = -1
    · rw [e2]
      refine own_none fun p hp => ?_
      rcases List.mem_append.1 hp with hp | hp
      · exact own_none_of h e2 p hp
      · rw [List.mem_singleton.1 hp]; exact fun e3 => e e3.symm
    · exact own_at h2 (p := (k, ownT o k)) (List.mem_append_left _ (own_some e2))
/-- A line is let go. -/
theorem ok_erase {o : List (Int × Int)} (h : OkT o) (i : Nat) : OkT (o.eraseIdx i) := ⟨List.Pairwise.sublist (List.eraseIdx_sublist _ _) h.1, fun p hp => h.2 p (List.eraseIdx_subset hp)⟩
theorem own_erase {o : List (Int × Int)} (h : OkT o) {i : Nat} {p : Int × Int} (hp : o[i]? = some p) (k : Int) : ownT (o.eraseIdx i) k = if k = p.1 then -1 else ownT o k := by
  have h2 := ok_erase h i
  by_cases e : k = p.1
  · rw [if_pos e]
    refine own_none fun q hq e2 => ?_
    obtain ⟨hi, rfl⟩ := List.getElem?_eq_some_iff.1 hp
    rw [List.mem_eraseIdx_iff_getElem?] at hq
    obtain ⟨j, hji, hj⟩ := hq
    obtain ⟨hj', rfl⟩ := List.getElem?_eq_some_iff.1 hj
    have hpw := List.pairwise_iff_getElem.1 h.1
    rcases Nat.lt_or_gt_of_ne hji with hlt | hlt
    · exact hpw j i hj' hi hlt (by rw [e2, e])
    · exact hpw i j hi hj' hlt (by rw [e2, e])
  · rw [if_neg e]
    by_cases e2 : ownT o k = -1
    · rw [e2]; exact own_none fun q hq => own_none_of h e2 q (List.eraseIdx_subset hq)
    · have hm := own_some e2
      refine own_at h2 (p := (k, ownT o k)) ?_
      rw [List.mem_eraseIdx_iff_getElem?]
      obtain ⟨j, hj⟩ := List.mem_iff_getElem?.1 hm
      refine ⟨j, fun e3 => ?_, hj⟩
      rw [e3, hp] at hj
      exact e (by rw [Option.some.inj hj])
theorem wait_snoc (q : List Wr) (x : Wr) (k : Int) : waitT (q ++ [x]) k = if k = x.l then waitT q k ++ [x] else waitT q k := by
  unfold waitT
  rw [List.filter_append]
  by_cases e : k = x.l
  · rw [if_pos e, e]; simp
  · have e3 : [x].filter (fun y => decide (y.l = k)) = [] := List.filter_eq_nil_iff.2 (fun y hy => by rw [List.mem_singleton.1 hy]; simp; exact fun e2 => e e2.symm)
    rw [if_neg e, e3, List.append_nil]
/-- The first one who waits for a line goes. -/
theorem wait_erase {q : List Wr} {i : Nat} {x : Wr} (hx : q[i]? = some x) (hno : ∀ j y, j < i → q[j]? = some y → y.l ≠ x.l) (k : Int) : waitT (q.eraseIdx i) k = if k = x.l then (waitT q k).tail else waitT q k := by
  obtain ⟨hi, rfl⟩ := List.getElem?_eq_some_iff.1 hx
  have e1 : q = q.take i ++ q[i] :: q.drop (i + 1) := by rw [← List.drop_eq_getElem_cons hi, List.take_append_drop]
  have e2 : q.eraseIdx i = q.take i ++ q.drop (i + 1) := List.eraseIdx_eq_take_drop_succ q i
  have e3 : waitT (q.take i) q[i].l = [] := List.filter_eq_nil_iff.2 (fun y hy => by
    obtain ⟨j, hj⟩ := List.mem_iff_getElem?.1 hy
    rw [List.getElem?_take] at hj
    split at hj
    · simpa using hno j y (by assumption) hj
    · cases hj)
  have e4 : waitT q k = waitT (q.take i) k ++ waitT (q[i] :: q.drop (i + 1)) k := by
    unfold waitT
    rw [← List.filter_append, ← e1]
  rw [e2]
  rw [show waitT (q.take i ++ q.drop (i + 1)) k = waitT (q.take i) k ++ waitT (q.drop (i + 1)) k from List.filter_append ..]
  rw [e4]
  by_cases e : k = q[i].l
  · rw [if_pos e, e, e3, List.nil_append, List.nil_append]
    unfold waitT
    rw [List.filter_cons_of_pos (by simp), List.tail_cons]
  · rw [if_neg e]
    congr 1
    unfold waitT
    rw [List.filter_cons_of_neg (by simp; exact fun e5 => e e5.symm)]
theorem wait_first {q : List Wr} {i : Nat} {x : Wr} (hx : q[i]? = some x) (hno : ∀ j y, j < i → q[j]? = some y → y.l ≠ x.l) : (waitT q x.l).head? = some x := by
  have h : q.find? (fun y => decide (y.l = x.l)) = some x := by
    rw [List.find?_eq_some_iff_getElem]
    obtain ⟨hi, rfl⟩ := List.getElem?_eq_some_iff.1 hx
    refine ⟨by simp, i, hi, rfl, fun j hj => ?_⟩
    simpa using hno j _ hj (List.getElem?_eq_getElem (by omega))
  unfold waitT
  rw [List.head?_filter]
  exact h
theorem wait_none {q : List Wr} {l : Int} (h : ∀ y ∈ q, y.l ≠ l) : waitT q l = [] := List.filter_eq_nil_iff.2 (fun y hy => by simpa using h y hy)
/-- The lines that have nobody, but somebody waits for them, rising. -/
def rdyF (o : List (Int × Int)) (out : List Int) (x : Wr) : List Int := if ownT o x.l = -1 then putK id x.l out else out
def readyT (o : List (Int × Int)) (q : List Wr) : List Int := q.foldl (rdyF o) []
theorem ready_gen (o : List (Int × Int)) (q : List Wr) : ∀ (out : List Int), RiseK id out → RiseK id (q.foldl (rdyF o) out) ∧ ∀ k, k ∈ q.foldl (rdyF o) out ↔ k ∈ out ∨ (ownT o k = -1 ∧ ∃ x ∈ q, x.l = k) := by
  induction q with
  | nil => intro out h; exact ⟨h, fun k => by simp⟩
  | cons x q ih =>
    intro out h
    rw [List.foldl_cons]
    have h1 : RiseK id (rdyF o out x) := by unfold rdyF; split; exact rise_put h; exact h
    obtain ⟨h2, h3⟩ := ih _ h1
    refine ⟨h2, fun k => (h3 k).trans ?_⟩
    unfold rdyF
    by_cases e : ownT o x.l = -1
    · rw [if_pos e, mem_putK]
      constructor
      · rintro ((rfl | ⟨hk, _⟩) | ⟨hk, y, hy, rfl⟩)
        · exact .inr ⟨e, x, by simp, rfl⟩
        · exact .inl hk
        · exact .inr ⟨hk, y, by simp [hy], rfl⟩
      · rintro (hk | ⟨hk, y, hy, rfl⟩)
        · by_cases e2 : k = x.l
          · exact .inl (.inl e2)
          · exact .inl (.inr ⟨hk, e2⟩)
        · rcases List.mem_cons.1 hy with rfl | hy
          · exact .inl (.inl rfl)
          · exact .inr ⟨hk, y, hy, rfl⟩
    · rw [if_neg e]
      constructor
      · rintro (hk | ⟨hk, y, hy, rfl⟩)
        · exact .inl hk
        · exact .inr ⟨hk, y, by simp [hy], rfl⟩
      · rintro (hk | ⟨hk, y, hy, rfl⟩)
        · exact .inl hk
        · rcases List.mem_cons.1 hy with rfl | hy
          · exact absurd hk e
          · exact .inr ⟨hk, y, hy, rfl⟩
theorem ready_rise (o : List (Int × Int)) (q : List Wr) : RiseK id (readyT o q) := (ready_gen o q [] List.Pairwise.nil).1
theorem ready_mem (o : List (Int × Int)) (q : List Wr) (k : Int) : k ∈ readyT o q ↔ ownT o k = -1 ∧ waitT q k ≠ [] := by
  rw [readyT, (ready_gen o q [] List.Pairwise.nil).2 k]
  have : (∃ x ∈ q, x.l = k) ↔ waitT q k ≠ [] := by
    unfold waitT
    rw [Ne, List.filter_eq_nil_iff]
    simp
  rw [this]
  simp
/-- What rises and has the same lines is the same list. -/
theorem ready_eq {o : List (Int × Int)} {q : List Wr} {l : List Int} (hl : RiseK id l) (h : ∀ k, k ∈ l ↔ ownT o k = -1 ∧ waitT q k ≠ []) : readyT o q = l := rise_ext (ready_rise o q) hl (fun k => (ready_mem o q k).trans (h k).symm)
end Go.Proofs.Ytgeiagndpfdnlaa
