/- Caches on plain data: lines that rise; where a new one goes; what Put, Drop, Touch make of the list. Nothing of the program is named here. -/
import Derived.Test.YtfobgkkmbacfjaaCa0
namespace Go.Proofs.Ytfobgkkmbacfjaa
open Go.RowKit
set_option linter.unusedVariables false

/-- The lines rise. -/
def Rising (L : List En) : Prop := L.Pairwise (fun a b => a.n < b.n)
theorem Rising.lt {L : List En} (h : Rising L) {i j : Nat} {x y : En} (hx : L[i]? = some x) (hy : L[j]? = some y) (hij : i < j) : x.n < y.n := by
  obtain ⟨hi, rfl⟩ := List.getElem?_eq_some_iff.1 hx
  obtain ⟨hj, rfl⟩ := List.getElem?_eq_some_iff.1 hy
  exact List.pairwise_iff_getElem.1 h i j hi hj hij
theorem Rising.inj {L : List En} (h : Rising L) {i j : Nat} {x y : En} (hx : L[i]? = some x) (hy : L[j]? = some y) (he : x.n = y.n) : i = j := by
  rcases Nat.lt_trichotomy i j with hij | hij | hij
  · have := h.lt hx hy hij; omega
  · exact hij
  · have := h.lt hy hx hij; omega
/-- Where a line of number v goes. -/
def posL (L : List En) (v : Int) : Nat := L.countP (fun e => decide (e.n < v))
theorem posL_le (L : List En) (v : Int) : posL L v ≤ L.length := List.countP_le_length
/-- The place is known by what stands on its two sides. -/
theorem posL_eq {L : List En} (h : Rising L) {v : Int} {p : Nat} (hp : p ≤ L.length) (hlo : ∀ j y, p ≤ j → L[j]? = some y → v < y.n) (hhi : p ≠ 0 → ∀ y, L[p - 1]? = some y → y.n ≤ v) (hno : ∀ y ∈ L, y.n ≠ v) : p = posL L v := by
  have hb : ∀ j y, j < p → L[j]? = some y → y.n < v := fun j y hj hy => by
    obtain ⟨z, hz⟩ : ∃ z, L[p - 1]? = some z := ⟨_, List.getElem?_eq_getElem (by omega)⟩
    have h1 := hhi (by omega) z hz
    have h2 := hno z (List.mem_of_getElem? hz)
    rcases Nat.lt_or_ge j (p - 1) with hjp | hjp
    · have := h.lt hy hz hjp; omega
    · obtain rfl : j = p - 1 := by omega
      obtain rfl := Option.some.inj (hy.symm.trans hz)
      omega
  unfold posL
  rw [← List.take_append_drop p L, List.countP_append]
  have e1 : (L.take p).countP (fun e => decide (e.n < v)) = (L.take p).length := by
    rw [List.countP_eq_length]
    intro y hy
    obtain ⟨j, hj⟩ := List.mem_iff_getElem?.1 hy
    rw [List.getElem?_take] at hj
    split at hj
    · exact decide_eq_true (hb j y (by assumption) hj)
    · cases hj
  have e2 : (L.drop p).countP (fun e => decide (e.n < v)) = 0 := by
    rw [List.countP_eq_zero]
    intro y hy
    obtain ⟨j, hj⟩ := List.mem_iff_getElem?.1 hy
    rw [List.getElem?_drop] at hj
    have := hlo (p + j) y (by omega) hj
    simp; omega
  rw [e1, e2, List.length_take, Nat.min_eq_left hp, Nat.add_zero]
theorem posL_lo {L : List En} (h : Rising L) {v : Int} (hno : ∀ y ∈ L, y.n ≠ v) : ∀ {j : Nat} {y : En}, L[j]? = some y → (j < posL L v ↔ y.n < v) := by
  intro j y hy
  induction L generalizing j with
  | nil => simp at hy
  | cons z L ih =>
    have hL : Rising L := List.Pairwise.of_cons h
    have hz : ∀ u ∈ L, z.n < u.n := fun u hu => List.rel_of_pairwise_cons h hu
    have hnL : ∀ u ∈ L, u.n ≠ v := fun u hu => hno u (List.mem_cons_of_mem _ hu)
    have hzv : z.n ≠ v := hno z (List.mem_cons_self ..)
    have hc : posL (z :: L) v = posL L v + (if z.n < v then 1 else 0) := by
      unfold posL
      rw [List.countP_cons]
      by_cases e : z.n < v <;> simp [e]
    rw [hc]
    by_cases e : z.n < v
    · rw [if_pos e]
      cases j with
      | zero => simp at hy; subst hy; exact ⟨fun _ => e, fun _ => by omega⟩
      | succ j =>
        have := ih hL hnL (j := j) (by simpa using hy)
        omega
    · rw [if_neg e]
      have h0 : posL L v = 0 := by
        unfold posL
        rw [List.countP_eq_zero]
        intro u hu
        have := hz u hu
        simp; omega
      rw [h0]
      have : ¬ y.n < v := by
        cases j with
        | zero => simp at hy; subst hy; exact e
        | succ j => have := hz y (List.mem_of_getElem? (by simpa using hy : L[j]? = some y)); omega
      omega
/-- The list with one more. -/
def insE (L : List En) (x : En) : List En := L.take (posL L x.n) ++ x :: L.drop (posL L x.n)
theorem rising_ins {L : List En} (h : Rising L) {x : En} (hno : ∀ y ∈ L, y.n ≠ x.n) : Rising (insE L x) := by
  unfold insE Rising
  have ht : ∀ y ∈ L.take (posL L x.n), y.n < x.n := fun y hy => by
    obtain ⟨j, hj⟩ := List.mem_iff_getElem?.1 hy
    rw [List.getElem?_take] at hj
    split at hj
    · exact (posL_lo h hno hj).1 (by assumption)
    · cases hj
  have hd : ∀ y ∈ L.drop (posL L x.n), x.n < y.n := fun y hy => by
    obtain ⟨j, hj⟩ := List.mem_iff_getElem?.1 hy
    rw [List.getElem?_drop] at hj
    have h1 := posL_lo h hno hj
    have h2 := hno y (List.mem_of_getElem? hj)
    have : ¬ y.n < x.n := fun e => by have := h1.2 e; omega
    omega
  rw [List.pairwise_append]
  refine ⟨List.Pairwise.sublist (List.take_sublist _ _) h, List.pairwise_cons.2 ⟨hd, List.Pairwise.sublist (List.drop_sublist _ _) h⟩, fun a ha b hb => ?_⟩
  rcases List.mem_cons.1 hb with rfl | hb
  · exact ht a ha
  · have := ht a ha; have := hd b hb; omega
theorem rising_erase {L : List En} (h : Rising L) (i : Nat) : Rising (L.eraseIdx i) := List.Pairwise.sublist (List.eraseIdx_sublist _ _) h
theorem rising_set {L : List En} (h : Rising L) {i : Nat} {x y : En} (hx : L[i]? = some x) (hn : y.n = x.n) : Rising (L.set i y) := by
  unfold Rising
  rw [List.pairwise_iff_getElem]
  intro a b ha hb hab
  simp only [List.length_set] at ha hb
  have hi := (List.getElem?_eq_some_iff.1 hx).1
  have ga : (L.set i y)[a].n = L[a].n := by
    rw [List.getElem_set]
    split
    · subst_vars; rw [hn]; exact congrArg En.n (List.getElem?_eq_some_iff.1 hx).2.symm
    · rfl
  have gb : (L.set i y)[b].n = L[b].n := by
    rw [List.getElem_set]
    split
    · subst_vars; rw [hn]; exact congrArg En.n (List.getElem?_eq_some_iff.1 hx).2.symm
    · rfl
  rw [ga, gb]
  exact List.pairwise_iff_getElem.1 h a b ha hb hab
end Go.Proofs.Ytfobgkkmbacfjaa
