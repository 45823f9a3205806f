/- The contracts of crc.Seal, crc.Open and the copy that Open hands out. Conditions: as each theorem states them. -/
import Derived.Test.YtbllhjhlkngchaaBWalks
namespace Go.Proofs.Ytbllhjhlkngchaa.B
open Go.RowKit
set_option linter.unusedVariables false

def sealI (l : List Int) : List Int := l ++ [sumI l / 256, sumI l % 256]

theorem sealI_b8 {l : List Int} (h : B8 l) : B8 (sealI l) := by
  refine B8_append h ?_
  have := sumI_bd l h
  intro y hy
  simp at hy
  rcases hy with rfl | rfl <;> omega
theorem cell_two (w : World) (x y : Int) : ∀ j u, (cells [x, y])[j]? = some u → (w.alloc (.cells #[.int .u8 x, .int .u8 y] 5)).cell? ((⟨w.heap.size, 0, none⟩ : Addr).add j) = some u := by
  intro j u hu
  obtain ⟨hj, rfl⟩ := cells_get hu
  rw [Addr.add_lit, Nat.zero_add, cell_of_row _ _ _ _ 5 (0, 0) (heap_alloc_new w _)]
  simp at hj
  match j, hj with
  | 0, _ | 1, _ => rfl

theorem Row.cellsAt' {w : World} {a : Option Addr} {l : List Int} (h : Row w a l) : ∀ ad, a = some ad → ∀ j u, (cells l)[j]? = some u → w.cell? (ad.add j) = some u := by
  intro ad e; subst e; exact h.cellsAt
theorem Sl.none0 {w : World} {a : Option Addr} {n cap : Nat} {l : List Int} (h : Sl w a n cap l) : a = none → n = 0 ∧ cap = 0 := fun e => ⟨by have := h.nil e; have := h.le; omega, h.nil e⟩
theorem own_block {w : World} {base g n cap : Nat} {xs : List Value} (h : w.ownsRow base 5 1 (.slice (some ⟨g, 0, none⟩) n cap) n xs) : ∃ cur : List Value, w.heap[g]? = some (.cells cur.toArray 5 (0, 0)) ∧ cur.length = cap := by
  rcases h.2 with ⟨h1, _⟩ | ⟨g', cap', cur, h1, _, hg, _, _, hsz, _⟩
  · cases h1
  · simp at h1
    obtain ⟨rfl, rfl⟩ := h1
    exact ⟨cur.toList, by simpa using hg, by simpa using hsz⟩
theorem own_full {w : World} {g n : Nat} {l : List Int} {cur : List Value} (h : w.heap[g]? = some (.cells (splice cur 0 (cells l)).toArray 5 (0, 0))) (hc : cur.length = n) (hl : l.length = n) (hm : n ≤ maxLen) :
    w.ownsRow g 5 1 (.slice (some ⟨g, 0, none⟩) n n) l.length (cells l) := by
  have e : splice cur 0 (cells l) = cells l := by
    unfold splice
    rw [List.take_zero, List.nil_append, Nat.zero_add, List.drop_eq_nil_of_le (by simp [cells, hl, hc]), List.append_nil]
  rw [e] at h
  subst hl
  exact ⟨by simp [cells], Or.inr ⟨g, l.length, (cells l).toArray, rfl, Nat.le_refl _, h, Nat.le_refl _, hm, by simp [cells], by rw [Nat.mul_one]; exact List.take_of_length_le (by simp [cells])⟩⟩
theorem row_pos {w : World} {a : Option Addr} {l : List Int} (h : Row w a l) (h0 : 0 < (cells l).length) : ∃ ad, a = some ad ∧ ∀ j v, (cells l)[j]? = some v → w.cell? (ad.add j) = some v := by
  have h' := h
  rcases h' with rfl | ⟨b, o, rfl, hc⟩
  · simp [cells] at h0
  · exact ⟨_, rfl, h.cellsAt⟩
theorem below_new {w w' : World} (h : w.grownBy w' none) : Below w.heap.size w w' := (Below.refl _ _).grown h (Nat.le_refl _) (by intro k hk; cases hk)

set_option maxHeartbeats 400000 in
theorem seal_any (a : Option Addr) (l : List Int) (n cap : Nat) (w : World) (hsl : Sl w a n cap l) (hn : n ≤ 140737488351300) :
    Calls Try.prog 14 #[.slice a n cap] w fun e w' => ∃ v, e = .returned v ∧ Own w' w.heap.size v (sealI l) ∧ Below w.heap.size w w' := by
  obtain ⟨i0, hi, hz0, hz1, hz2⟩ := info_parts Try.info5
  obtain ⟨s0, s1⟩ := sumI_bd l hsl.b8
  have hl := hsl.len
  go_enter Try.func14, Try.ntmps14
  go_wp2_with (first
    | (go_at_call 34; refine (sum_any a l n cap _ hsl).mono ?_; rintro e w1 ⟨rfl, rfl⟩)
    | (at_make; refine wpList_make_own _ rfl _ _ 27 rfl w.heap.size 5 i0 (.int .u8 0) 1 Try.underlying27 hi hz0 hz1 _ _ _ (n + 2) rfl rfl (by omega) (by rw [hz2]; omega) (by unfold maxLen; omega) (Nat.le_refl _) ?_; intro w1 hown1 hg1)
    | (at_builtin; refine wpList_append_fits_any _ rfl (.tmp 11) (.tmp 12) 27 rfl w.heap.size 5 i0 1 Try.underlying27 hi hz1 w.heap.size 0 (n + 2) [] rfl hown1 a n cap (cells l) rfl (by simp [cells, hl]) hsl.none0 (hsl.row.below (below_new hg1)).cellsAt' (cells_one l) (by omega) ?_; intro w2 hown2 hg2; simp only [Nat.zero_add, List.nil_append] at hown2)
    | (at_builtin; refine wpList_append_fits _ rfl (.tmp 14) (.tmp 20) 27 rfl w.heap.size 5 i0 1 Try.underlying27 hi hz1 w.heap.size n (n + 2) (cells l) rfl (hown2.alloc _) ⟨_, 0, none⟩ 2 2 (cells [_, _]) rfl rfl (cell_two _ _ _) (cells_one _) (by omega) ?_; intro w3 hown3 hg3))
  go_ret
  have z1 := hg1.size
  have z2 := hg2.size
  refine ⟨_, rfl, ⟨by simpa [sealI, cells, hl] using hown3, sealI_b8 hsl.b8⟩, ?_⟩
  exact ((((below_new hg1).grown hg2 z1 (by intro k hk; simp at hk; omega)).alloc (by omega) _).grown hg3 (by simp; omega) (by intro k hk; simp at hk; omega))

theorem copyOf_any (a : Option Addr) (l : List Int) (n cap : Nat) (w : World) (hsl : Sl w a n cap l) (hn : n ≤ 140737488351300) :
    Calls Try.prog 45 #[.slice a n cap] w fun e w' => ∃ v, e = .returned v ∧ Own w' w.heap.size v l ∧ Below w.heap.size w w' := by
  obtain ⟨i0, hi, hz0, hz1, hz2⟩ := info_parts Try.info5
  have hl := hsl.len
  go_enter Try.func45, Try.ntmps45
  go_wp2_with (first
    | (at_make; refine wpList_make_full _ rfl _ _ 27 rfl w.heap.size 5 i0 (.int .u8 0) 1 Try.underlying27 hi hz0 hz1 _ _ _ _ n rfl rfl (by omega) (by omega) (by rw [hz2]; omega) (by unfold maxLen; omega) (Nat.le_refl _) ?_; intro w1 hown1 hg1; obtain ⟨cur, hcur, hcl⟩ := own_block hown1)
    | (refine wpList_copy_splice rfl (.tmp 7) (.tmp 8) 27 27 rfl 5 Try.underlying27 (by rw [hi]; simp [hz1]) _ _ _ _ _ _ rfl rfl w.heap.size 0 cur 5 hcur (cells l) (by simp [cells, hl]) (fun h => ⟨rfl, row_pos (hsl.row.below (below_new hg1)) h⟩) (by simp [cells, hl, hcl]) (cells_one l) w.heap.size w (below_new hg1) (Nat.le_refl _) ?_; intro w2 hg2 hb2))
  go_ret
  exact ⟨_, rfl, ⟨own_full hg2.out hcl hl (by unfold maxLen; omega), hsl.b8⟩, hb2⟩

/-- What is opened. -/
def openI (l : List Int) : Option (List Int) :=
  if l.length < 2 then none else if sumI (l.take (l.length - 2)) = l[l.length - 2]?.getD 0 * 256 + l[l.length - 1]?.getD 0 then some (l.take (l.length - 2)) else none
theorem openI_short {l : List Int} (h : l.length < 2) : openI l = none := if_pos h
theorem openI_yes {l : List Int} {m : Nat} (hl : l.length = m + 2) (h : sumI (l.take m) = l[m]?.getD 0 * 256 + l[m + 1]?.getD 0) : openI l = some (l.take m) := by
  unfold openI
  rw [if_neg (by omega), hl, show m + 2 - 2 = m by omega, show m + 2 - 1 = m + 1 by omega, if_pos h]
theorem openI_no {l : List Int} {m : Nat} (hl : l.length = m + 2) (h : ¬ sumI (l.take m) = l[m]?.getD 0 * 256 + l[m + 1]?.getD 0) : openI l = none := by
  unfold openI
  rw [if_neg (by omega), hl, show m + 2 - 2 = m by omega, show m + 2 - 1 = m + 1 by omega, if_neg h]
theorem or_join (x y : Int) (hx0 : 0 ≤ x) (hx1 : x < 256) (hy0 : 0 ≤ y) (hy1 : y < 256) : bits .or .u16 (x * 256) y = x * 256 + y := by
  rw [u16_or _ _ (by omega) (by omega) (by omega) (by omega), nat_join 8 _ _ (by omega) (by omega)]
  omega
theorem own_nil (w : World) (base : Nat) : Own w base (.slice none 0 0) [] := ⟨World.ownsRow_nil _ _ _ _, fun x hx => by cases hx⟩
theorem ret_two {v : Value} {a b : Bool} (h : a = b) : Ending.returned (.tuple #[v, .bool a]) = .returned (.tuple #[v, .bool b]) := by rw [h]
theorem below_dn (w : World) (k : Nat) : Below w.heap.size w (w.drewN k) := ⟨rfl, rfl, rfl, Nat.le_refl _, fun _ _ => rfl⟩

set_option maxHeartbeats 1000000 in
theorem open_any (a : Option Addr) (l : List Int) (n cap : Nat) (w : World) (hsl : Sl w a n cap l) (hn : n ≤ 140737488351300) :
    Calls Try.prog 39 #[.slice a n cap] w fun e w' => ∃ v, e = .returned (.tuple #[v, .bool (openI l).isSome]) ∧ Own w' w.heap.size v ((openI l).getD []) ∧ Below w.heap.size w w' := by
  have hl := hsl.len
  by_cases h2 : n < 2
  · have HO : Hid (openI l = none) := openI_short (by omega)
    go_enter Try.func39, Try.ntmps39
    go_wp2
    go_ret2
    exact ⟨_, ret_two (by rw [HO.out]; rfl), by rw [HO.out]; exact own_nil _ _, Below.refl _ _⟩
  · rcases hsl.row with rfl | ⟨b, o, rfl, hc⟩
    · simp at hl; omega
    obtain ⟨m, rfl⟩ : ∃ m, n = m + 2 := ⟨n - 2, by omega⟩
    have c0 := hc m (by omega)
    have c1 := hc (m + 1) (by omega)
    have q0 : (0 : Int) ≤ (m : Int) := by omega
    obtain ⟨x0, x1⟩ := B8_get hsl.b8 m
    obtain ⟨y0, y1⟩ := B8_get hsl.b8 (m + 1)
    have HY : Hid (sumI (l.take m) = l[m]?.getD 0 * 256 + l[m + 1]?.getD 0 → openI l = some (l.take m)) := openI_yes hl
    have HN : Hid (¬ sumI (l.take m) = l[m]?.getD 0 * 256 + l[m + 1]?.getD 0 → openI l = none) := openI_no hl
    have hle := hsl.le
    clear hc h2
    generalize l[m]?.getD 0 = x at *
    generalize l[m + 1]?.getD 0 = y at *
    have hor := or_join x y x0 x1 y0 y1
    have hst := hsl.take m (by omega)
    by_cases hs : sumI (l.take m) = x * 256 + y
    · have hs' : (sumI (l.take m) != x * 256 + y) = false := by simp [hs]
      have HO : Hid (openI l = some (l.take m)) := HY.out hs
      clear HY HN hs
      go_enter Try.func39, Try.ntmps39
      go_wp2_with fail
      go_quiet (fail)
      go_wp2_with (first
        | (go_at_call 34; refine (sum_any _ _ m cap _ (hst.below (below_dn _ _))).mono ?_; rintro e w1 ⟨rfl, rfl⟩)
        | (go_at_call 45; refine (copyOf_any _ _ m cap _ (hst.below (below_dn _ _)) (by omega)).mono ?_; rintro e w2 ⟨v, rfl, hown, hb⟩))
      go_ret2
      exact ⟨_, ret_two (by rw [HO.out]; rfl), by rw [HO.out]; exact hown, (below_dn w _).trans hb⟩
    · have hs' : (sumI (l.take m) != x * 256 + y) = true := by simpa using hs
      have HO : Hid (openI l = none) := HN.out hs
      clear HY HN hs
      go_enter Try.func39, Try.ntmps39
      go_wp2_with fail
      go_quiet (fail)
      go_wp2_with (first
        | (go_at_call 34; refine (sum_any _ _ m cap _ (hst.below (below_dn _ _))).mono ?_; rintro e w1 ⟨rfl, rfl⟩))
      go_ret2
      exact ⟨_, ret_two (by rw [HO.out]; rfl), by rw [HO.out]; exact own_nil _ _, below_dn w _⟩
end Go.Proofs.Ytbllhjhlkngchaa.B
