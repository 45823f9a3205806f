/- The library's calls on whole numbers that a cache makes: Index, Delete of one, and the keys of a map, sorted (Lines). Conditions: as each theorem states them. -/
import Derived.Test.YtgeiagndpfdnlaaIMap
import Derived.Test.YtgeiagndpfdnlaaSortL
namespace Go.Proofs.Ytgeiagndpfdnlaa
open Go.RowKit Go.Maps Go.Sort Go.Shelf
set_option linter.unusedVariables false
set_option maxRecDepth 20000

theorem idx_from {x : Int} : ∀ (l : List Int) (k j : Nat), l[k]? = some x → (∀ i, i < k → l[i]? ≠ some x) → Lib.idxByFrom (fun a b : Int => a == b) x l j = ((j + k : Nat) : Int)
  | [], k, j, h, _ => by simp at h
  | y :: l, 0, j, h, _ => by
    simp at h
    subst h
    simp [Lib.idxByFrom]
  | y :: l, k + 1, j, h, hn => by
    have h0 : y ≠ x := fun e => hn 0 (by omega) (by simp [e])
    have ih := idx_from l k (j + 1) (by simpa using h) (fun i hi e => hn (i + 1) (by omega) (by simpa using e))
    simp only [Lib.idxByFrom, show (x == y) = false from by simp [Ne.symm h0], ih]
    simp
    omega
theorem Try.intI : ∃ i0, Try.prog.info? 3 = some i0 ∧ i0.size = 1 := by
  obtain ⟨i0, hi, hz0, hz1, hz2⟩ := info_parts Try.infoInt
  exact ⟨i0, hi, hz1⟩
theorem merge_rise {ss : List Int} {l : List Int} (hp : ss.Perm l) (hl : l.Pairwise (· < ·)) : ss.mergeSort (fun x y => decide (x ≤ y)) = l := by
  refine List.Perm.eq_of_pairwise (le := fun a b : Int => a ≤ b) (fun a b _ _ h1 h2 => by omega) ?_ (hl.imp (fun h => by omega)) ((List.mergeSort_perm ss _).trans hp)
  have := List.pairwise_mergeSort (le := fun x y : Int => decide (x ≤ y)) (fun a b c h1 h2 => by simp at *; omega) (fun a b => by simp; omega) ss
  exact this.imp (fun h => by simpa using h)
theorem keys_pairs (l : List (Int × Value)) : intKeys (DataW.map (pairsD l)) = l.map Prod.fst := by
  simp only [intKeys, pairsD, List.map_map]
  rfl
end Go.Proofs.Ytgeiagndpfdnlaa
