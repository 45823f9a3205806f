/- The contracts of crc.Seal, crc.Open and the copy that Open hands out. Conditions: as each theorem states them. -/
import Derived.Test.YtgeiagndpfdnlaaBWalks
namespace Go.Proofs.Ytgeiagndpfdnlaa.B
open Go.RowKit
set_option linter.unusedVariables false

def sealI (l : List Int) : List Int := l ++ [sumI l / 256, sumI l % 256]

theorem sealI_b8 {l : List Int} (h : B8 l) : B8 (sealI l) := by
  refine B8_append h ?_
  have := sumI_bd l h
  intro y hy
  simp at hy
  rcases hy with rfl | rfl <;> omega
theorem cell_two (w : World) (x y : Int) : ∀ j u, (cells [x, y])[j]? = some u → (w.alloc (.cells #[.int .u8 x, .int .u8 y] 5)).cell? ((⟨w.heap.size, 0, none⟩ : Addr).add j) = some u := by
  intro j u hu
  obtain ⟨hj, rfl⟩ := cells_get hu
  rw [Addr.add_lit, Nat.zero_add, cell_of_row _ _ _ _ 5 (0, 0) (heap_alloc_new w _)]
  simp at hj
  match j, hj with
  | 0, _ | 1, _ => rfl

theorem Row.cellsAt' {w : World} {a : Option Addr} {l : List Int} (h : Row w a l) : ∀ ad, a = some ad → ∀ j u, (cells l)[j]? = some u → w.cell? (ad.add j) = some u := by
  intro ad e; subst e; exact h.cellsAt
theorem Sl.none0 {w : World} {a : Option Addr} {n cap : Nat} {l : List Int} (h : Sl w a n cap l) : a = none → n = 0 ∧ cap = 0 := fun e => ⟨by have := h.nil e; have := h.le; omega, h.nil e⟩
theorem own_block {w : World} {base g n cap : Nat} {xs : List Value} (h : w.ownsRow base 5 1 (.slice (some ⟨g, 0, none⟩) n cap) n xs) : ∃ cur : List Value, w.heap[g]? = some (.cells cur.toArray 5 (0, 0)) ∧ cur.length = cap := by
  rcases h.2 with ⟨h1, _⟩ | ⟨g', cap', cur, h1, _, hg, _, _, hsz, _⟩
  · cases h1
  · simp at h1
    obtain ⟨rfl, rfl⟩ := h1
    exact ⟨cur.toList, by simpa using hg, by simpa using hsz⟩
theorem own_full {w : World} {g n : Nat} {l : List Int} {cur : List Value} (h : w.heap[g]? = some (.cells (splice cur 0 (cells l)).toArray 5 (0, 0))) (hc : cur.length = n) (hl : l.length = n) (hm : n ≤ maxLen) :
    w.ownsRow g 5 1 (.slice (some ⟨g, 0, none⟩) n n) l.length (cells l) := by
  have e : splice cur 0 (cells l) = cells l := by
    unfold splice
    rw [List.take_zero, List.nil_append, Nat.zero_add, List.drop_eq_nil_of_le (by simp [cells, hl, hc]), List.append_nil]
  rw [e] at h
  subst hl
  exact ⟨by simp [cells], Or.inr ⟨g, l.length, (cells l).toArray, rfl, Nat.le_refl _, h, Nat.le_refl _, hm, by simp [cells], by rw [Nat.mul_one]; exact List.take_of_length_le (by simp [cells])⟩⟩
theorem row_pos {w : World} {a : Option Addr} {l : List Int} (h : Row w a l) (h0 : 0 < (cells l).length) : ∃ ad, a = some ad ∧ ∀ j v, (cells l)[j]? = some v → w.cell? (ad.add j) = some v := by
  have h' := h
  rcases h' with rfl | ⟨b, o, rfl, hc⟩
  · simp [cells] at h0
  · exact ⟨_, rfl, h.cellsAt⟩
theorem below_new {w w' : World} (h : w.grownBy w' none) : Below w.heap.size w w' := (Below.refl _ _).grown h (Nat.le_refl _) (by intro k hk; cases hk)

/-- What is opened. -/
def openI (l : List Int) : Option (List Int) :=
  if l.length < 2 then none else if sumI (l.take (l.length - 2)) = l[l.length - 2]?.getD 0 * 256 + l[l.length - 1]?.getD 0 then some (l.take (l.length - 2)) else none
theorem openI_short {l : List Int} (h : l.length < 2) : openI l = none := if_pos h
theorem openI_yes {l : List Int} {m : Nat} (hl : l.length = m + 2) (h : sumI (l.take m) = l[m]?.getD 0 * 256 + l[m + 1]?.getD 0) : openI l = some (l.take m) := by
  unfold openI
  rw [if_neg (by omega), hl, show m + 2 - 2 = m by omega, show m + 2 - 1 = m + 1 by omega, if_pos h]
theorem openI_no {l : List Int} {m : Nat} (hl : l.length = m + 2) (h : ¬ sumI (l.take m) = l[m]?.getD 0 * 256 + l[m + 1]?.getD 0) : openI l = none := by
  unfold openI
  rw [if_neg (by omega), hl, show m + 2 - 2 = m by omega, show m + 2 - 1 = m + 1 by omega, if_neg h]
theorem or_join (x y : Int) (hx0 : 0 ≤ x) (hx1 : x < 256) (hy0 : 0 ≤ y) (hy1 : y < 256) : bits .or .u16 (x * 256) y = x * 256 + y := by
  rw [u16_or _ _ (by omega) (by omega) (by omega) (by omega), nat_join 8 _ _ (by omega) (by omega)]
  omega
theorem own_nil (w : World) (base : Nat) : Own w base (.slice none 0 0) [] := ⟨World.ownsRow_nil _ _ _ _, fun x hx => by cases hx⟩
theorem ret_two {v : Value} {a b : Bool} (h : a = b) : Ending.returned (.tuple #[v, .bool a]) = .returned (.tuple #[v, .bool b]) := by rw [h]
theorem below_dn (w : World) (k : Nat) : Below w.heap.size w (w.drewN k) := ⟨rfl, rfl, rfl, Nat.le_refl _, fun _ _ => rfl⟩

end Go.Proofs.Ytgeiagndpfdnlaa.B
