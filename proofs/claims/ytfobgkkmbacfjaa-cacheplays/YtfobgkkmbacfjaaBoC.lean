/- Both caches beside each other (BO): the program's own, the document's, and what a test has of its own; what each call makes of one of them. Conditions: as each theorem states them. -/
import Derived.Test.YtfobgkkmbacfjaaCacMath
import Derived.Test.YtfobgkkmbacfjaaCacLe0
import Derived.Test.YtfobgkkmbacfjaaCaRef6
import Derived.Test.YtfobgkkmbacfjaaCaMath
namespace Go.Proofs.Ytfobgkkmbacfjaa
open Go.RowKit Go.Maps
set_option linter.unusedVariables false
set_option maxRecDepth 20000

section
variable {L : List En} {l S W k : Int} {x : En}
theorem rising_k (h : RiseK nOf L) : Rising L := h
theorem atL_has (L : List En) (l : Int) : (atL L l = -1 ∧ hasL L l = false) ∨ ∃ i : Nat, atL L l = i ∧ L[i]? = some (entL L l) ∧ hasL L l = true ∧ (entL L l).n = l := by
  rcases atL_cases L l with ⟨k, x, h1, h2, h3, h4, h5⟩ | ⟨h1, h2⟩
  · have hh : hasL L l = true := getK_isSome.2 ⟨x, List.mem_of_getElem? h1, h2⟩
    have he : entL L l = x := by
      unfold entL getK
      have : L.find? (fun q => decide (nOf q = l)) = some x := by
        rw [List.find?_eq_some_iff_getElem]
        obtain ⟨hk, hx⟩ := List.getElem?_eq_some_iff.1 h1
        refine ⟨decide_eq_true h2, k, hk, hx, fun j hj => ?_⟩
        have := h5 j _ hj (List.getElem?_eq_getElem (by omega))
        simp [this]
      rw [this]
      rfl
    exact .inr ⟨k, h4, by rw [he]; exact h1, hh, by rw [he]; exact h2⟩
  · refine .inl ⟨h1, ?_⟩
    cases hh : hasL L l with
    | false => rfl
    | true => exact absurd (hasL_mem hh).2 (h2 _ (hasL_mem hh).1)
theorem inL_set (h : ∀ e ∈ L, 0 ≤ e.n) (hl : 0 ≤ l) : inL S L l = (inSet S L (setI S l)).length := by
  unfold inL inSet
  rw [if_pos hl, List.countP_eq_length_filter]
  congr 1
  apply List.filter_congr
  intro e he
  have := h e he
  unfold setI
  rw [if_neg (by omega), if_neg (by omega)]
theorem set_put (hr : RiseK nOf L) {i : Nat} (hi : L[i]? = some (entL L x.n)) (hh : hasL L x.n = true) {y : En} (hy : y.n = x.n) : L.set i y = putK nOf y L := by
  obtain ⟨m1, m2⟩ := hasL_mem hh
  refine rise_ext (rising_set (rising_k hr) hi (by rw [hy, m2])) (rise_put hr) (fun a => ?_)
  have hil := (List.getElem?_eq_some_iff.1 hi).1
  rw [mem_putK]
  constructor
  · intro ha
    obtain ⟨j, hj⟩ := List.mem_iff_getElem?.1 ha
    rw [List.getElem?_set] at hj
    by_cases e : i = j
    · rw [if_pos e, if_pos hil] at hj
      exact .inl (Option.some.inj hj).symm
    · rw [if_neg e] at hj
      refine .inr ⟨List.mem_of_getElem? hj, fun e' => e ?_⟩
      exact (rising_k hr).inj hi hj (by rw [m2, ← hy]; exact e'.symm)
  · rintro (rfl | ⟨ha, hne⟩)
    · exact List.mem_iff_getElem?.2 ⟨i, by rw [List.getElem?_set, if_pos rfl, if_pos hil]⟩
    · obtain ⟨j, hj⟩ := List.mem_iff_getElem?.1 ha
      refine List.mem_iff_getElem?.2 ⟨j, ?_⟩
      rw [List.getElem?_set, if_neg (fun e => hne ?_)]
      · exact hj
      · subst e
        rw [hi] at hj
        rw [← Option.some.inj hj]
        show (entL L x.n).n = y.n
        rw [m2, hy]
theorem erase_del (hr : RiseK nOf L) {i : Nat} (hi : L[i]? = some (entL L l)) (hh : hasL L l = true) : L.eraseIdx i = delK nOf l L := by
  obtain ⟨m1, m2⟩ := hasL_mem hh
  refine rise_ext (rising_erase (rising_k hr) i) (rise_del hr) (fun a => ?_)
  rw [mem_delK]
  have hil := (List.getElem?_eq_some_iff.1 hi).1
  constructor
  · intro ha
    obtain ⟨j, hj⟩ := List.mem_iff_getElem?.1 ha
    rw [List.getElem?_eraseIdx] at hj
    split at hj
    · refine ⟨List.mem_of_getElem? hj, fun e => ?_⟩
      have := (rising_k hr).inj hi hj (by rw [m2]; exact e.symm)
      omega
    · refine ⟨List.mem_of_getElem? hj, fun e => ?_⟩
      have := (rising_k hr).inj hi hj (by rw [m2]; exact e.symm)
      omega
  · rintro ⟨ha, hne⟩
    obtain ⟨j, hj⟩ := List.mem_iff_getElem?.1 ha
    have hij : j ≠ i := fun e => hne (by
      subst e
      rw [hi] at hj
      obtain rfl := Option.some.inj hj
      exact m2)
    by_cases hlt : j < i
    · exact List.mem_iff_getElem?.2 ⟨j, by rw [List.getElem?_eraseIdx, if_pos hlt]; exact hj⟩
    · exact List.mem_iff_getElem?.2 ⟨j - 1, by rw [List.getElem?_eraseIdx, if_neg (by omega), show j - 1 + 1 = j by omega]; exact hj⟩
theorem ins_put (hr : RiseK nOf L) (hh : hasL L x.n = false) {p : Nat} (hp : p ≤ L.length) (hlo : ∀ j y, p ≤ j → L[j]? = some y → x.n < y.n) (hhi : p ≠ 0 → ∀ y, L[p - 1]? = some y → y.n ≤ x.n) {z : En} (hz : z.n = x.n) : L.take p ++ z :: L.drop p = putK nOf z L := by
  have hno := hasL_no hh
  have e := posL_eq (rising_k hr) hp hlo hhi hno
  have e2 : L.take p ++ z :: L.drop p = insE L z := by
    unfold insE
    rw [hz, ← e]
  rw [e2]
  refine rise_ext (rising_ins (rising_k hr) (fun y hy => by rw [hz]; exact hno y hy)) (rise_put hr) (fun a => ?_)
  rw [mem_putK]
  unfold insE
  rw [List.mem_append, List.mem_cons]
  constructor
  · rintro (ha | rfl | ha)
    · exact .inr ⟨List.mem_of_mem_take ha, by show a.n ≠ z.n; rw [hz]; exact hno a (List.mem_of_mem_take ha)⟩
    · exact .inl rfl
    · exact .inr ⟨List.mem_of_mem_drop ha, by show a.n ≠ z.n; rw [hz]; exact hno a (List.mem_of_mem_drop ha)⟩
  · rintro (rfl | ⟨ha, _⟩)
    · exact .inr (.inl rfl)
    · rw [← List.take_append_drop (posL L z.n) L, List.mem_append] at ha
      exact ha.elim .inl (fun h => .inr (.inr h))
/-- What the document's Full asks. -/
theorem full_same (h : ∀ e ∈ L, 0 ≤ e.n) (hW : 1 ≤ W) : decide (0 ≤ l ∧ atL L l = -1 ∧ W ≤ (inL S L l : Int)) = fullL S W L l := by
  unfold fullL
  by_cases hl : 0 ≤ l
  · rw [inL_set h hl]
    rcases atL_has L l with ⟨h1, h2⟩ | ⟨i, h1, _, h2, _⟩
    · rw [h1, h2]; simp [hl]
    · rw [h1, h2]; simp
  · have : inSet S L (setI S l) = [] := by
      unfold inSet
      rw [List.filter_eq_nil_iff]
      intro e he hs
      have h1 := of_decide_eq_true hs
      have h2 := h e he
      unfold setI at h1
      rw [if_neg (by omega), if_pos (by omega)] at h1
      have := Int.tmod_nonneg (b := S) h2
      omega
    rw [this]
    simp [hl]
    intro _
    omega
end
end Go.Proofs.Ytfobgkkmbacfjaa
