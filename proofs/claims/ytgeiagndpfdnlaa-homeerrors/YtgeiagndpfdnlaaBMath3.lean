/- More plain mathematics of chapter 1: what Spoil does digit by digit, and that a burst of up to sixteen digits never leaves a sum as it was. No condition. -/
import Derived.Test.YtgeiagndpfdnlaaBMath2
import Derived.Test.YtgeiagndpfdnlaaBSpoil
namespace Go.Proofs.Ytgeiagndpfdnlaa.B
open Go.RowKit

def digAt (l : List Int) (k : Nat) : Bool := (l[k / 8]?.getD 0).toNat.testBit (7 - k % 8)
def mdig (mask : Int) (i : Nat) : Bool := mask.toNat.testBit (15 - i)

theorem turnI_bit {x mask : Int} (hx0 : 0 ≤ x) (hx1 : x < 256) (hm0 : 0 ≤ mask) (hm1 : mask < 65536) (t i j : Nat) :
    (turnI x mask t i).toNat.testBit j = (x.toNat.testBit j ^^ (decide (j = 7 - t % 8) && mdig mask i)) := by
  obtain ⟨y, rfl⟩ := Int.eq_ofNat_of_zero_le hx0
  obtain ⟨m, rfl⟩ := Int.eq_ofNat_of_zero_le hm0
  have e1 : ((m : Int) / 2 ^ (15 - i) % 256) = ((m / 2 ^ (15 - i) % 256 : Nat) : Int) := by simp
  have e2 : bits .and .u8 ((m : Int) / 2 ^ (15 - i) % 256) 1 = ((m / 2 ^ (15 - i) % 2 : Nat) : Int) := by
    rw [e1, show (1 : Int) = ((1 : Nat) : Int) from rfl, u8_and_nat _ 1 (by omega) (by decide), Nat.and_one_is_mod]
    congr 1; omega
  have hb : mdig (m : Int) i = decide (m / 2 ^ (15 - i) % 2 = 1) := by
    unfold mdig; rw [Int.toNat_natCast, Nat.testBit_eq_decide_div_mod_eq]
  have hp : 2 ^ (7 - t % 8) ≤ 2 ^ 7 := Nat.pow_le_pow_right (by omega) (by omega)
  unfold turnI
  rw [e2]
  rcases Nat.mod_two_eq_zero_or_one (m / 2 ^ (15 - i)) with h | h
  · rw [h] at hb ⊢
    have z : IntKind.u8.wrap (((0 : Nat) : Int) * 2 ^ (7 - t % 8)) = ((0 : Nat) : Int) := by simp [IntKind.wrap_u8']
    rw [z, u8_xor_nat y 0 (by omega) (by decide), hb]
    simp
  · rw [h] at hb ⊢
    have z : IntKind.u8.wrap (((1 : Nat) : Int) * 2 ^ (7 - t % 8)) = ((2 ^ (7 - t % 8) : Nat) : Int) := by
      rw [IntKind.wrap_u8']
      have : ((1 : Nat) : Int) * 2 ^ (7 - t % 8) = ((2 ^ (7 - t % 8) : Nat) : Int) := by simp
      rw [this]
      generalize 2 ^ (7 - t % 8) = p at hp ⊢
      omega
    rw [z, u8_xor_nat y _ (by omega) (by omega), hb, Int.toNat_natCast, Nat.testBit_xor, Nat.testBit_two_pow]
    simp [eq_comm]

theorem spStep_dig {l : List Int} {bit mask : Int} (h8 : B8 l) (hm0 : 0 ≤ mask) (hm1 : mask < 65536) (i k : Nat) (hk : k < 8 * l.length) :
    digAt (spStep l bit mask i) k = (digAt l k ^^ (decide (bit + i = k) && mdig mask i)) := by
  by_cases h : 0 ≤ bit + i ∧ bit + i < 8 * l.length
  · obtain ⟨t, ht⟩ : ∃ t : Nat, bit + (i : Int) = (t : Int) := ⟨(bit + i).toNat, by omega⟩
    have ht' : t < 8 * l.length := by omega
    rw [spStep_in ht ht', ht]
    unfold digAt
    have hx := B8_get h8 (t / 8)
    by_cases hq : t / 8 = k / 8
    · rw [← hq, List.getElem?_set_self (by omega), Option.getD_some, turnI_bit hx.1 hx.2 hm0 hm1 _ _ _]
      congr 2
      simp; omega
    · rw [List.getElem?_set_ne hq]
      have : ¬ ((t : Int) = (k : Int)) := by omega
      simp [this]
  · rw [spStep_out (by omega)]
    have : ¬ (bit + (i : Int) = (k : Int)) := by omega
    simp [this]
theorem spN_dig {l : List Int} {bit mask : Int} (h8 : B8 l) (hm0 : 0 ≤ mask) (hm1 : mask < 65536) (k : Nat) (hk : k < 8 * l.length) :
    ∀ n, n ≤ 16 → digAt (spN l bit mask n) k = (digAt l k ^^ (decide (bit ≤ k ∧ k < bit + n) && mdig mask (k - bit).toNat))
  | 0, _ => by
    have : ¬ (bit ≤ (k : Int) ∧ (k : Int) < bit + ((0 : Nat) : Int)) := by omega
    simp only [this, spN_zero, decide_false, Bool.false_and, Bool.xor_false]
  | n + 1, hn => by
    rw [spN_succ, spStep_dig (spN_b8 h8 bit mask n) hm0 hm1 n k (by rw [spN_len]; exact hk), spN_dig h8 hm0 hm1 k hk n (by omega)]
    by_cases h : bit + (n : Int) = (k : Int)
    · have a1 : ¬ (bit ≤ (k : Int) ∧ (k : Int) < bit + (n : Int)) := by omega
      have a2 : bit ≤ (k : Int) ∧ (k : Int) < bit + ((n + 1 : Nat) : Int) := by omega
      have a3 : ((k : Int) - bit).toNat = n := by omega
      rw [decide_eq_false a1, decide_eq_true a2, decide_eq_true h, a3]
      simp
    · have a1 : (bit ≤ (k : Int) ∧ (k : Int) < bit + ((n + 1 : Nat) : Int)) ↔ (bit ≤ (k : Int) ∧ (k : Int) < bit + (n : Int)) := by omega
      simp only [h, a1, decide_false, Bool.false_and, Bool.xor_false]
/-- Is the digit k of the list turned? -/
def hit (bit mask : Int) (k : Nat) : Bool := decide (bit ≤ k ∧ k < bit + 16) && mdig mask (k - bit).toNat
theorem spoilI_dig {l : List Int} {bit mask : Int} (h8 : B8 l) (hm0 : 0 ≤ mask) (hm1 : mask < 65536) (k : Nat) (hk : k < 8 * l.length) :
    digAt (spoilI l bit mask) k = (digAt l k ^^ hit bit mask k) := spN_dig h8 hm0 hm1 k hk 16 (by omega)
theorem spoilI_len (l : List Int) (bit mask : Int) : (spoilI l bit mask).length = l.length := spN_len ..
theorem spoilI_b8 {l : List Int} (h : B8 l) (bit mask : Int) : B8 (spoilI l bit mask) := spN_b8 h bit mask 16

theorem byte_ext {x y : Int} (hx : 0 ≤ x ∧ x < 256) (hy : 0 ≤ y ∧ y < 256) (h : ∀ j, j < 8 → x.toNat.testBit j = y.toNat.testBit j) : x = y := by
  have : x.toNat = y.toNat := by
    apply Nat.eq_of_testBit_eq
    intro j
    by_cases hj : j < 8
    · exact h j hj
    · have p : 2 ^ 8 ≤ 2 ^ j := Nat.pow_le_pow_right (by omega) (by omega)
      rw [Nat.testBit_lt_two_pow (by omega), Nat.testBit_lt_two_pow (by omega)]
  omega
theorem digs_ext {l m : List Int} (hl : B8 l) (hm : B8 m) (hlen : l.length = m.length) (h : ∀ k, k < 8 * l.length → digAt l k = digAt m k) : l = m := by
  apply List.ext_getElem? 
  intro i
  by_cases hi : i < l.length
  · have e : l[i]?.getD 0 = m[i]?.getD 0 := by
      refine byte_ext (B8_get hl i) (B8_get hm i) fun j hj => ?_
      have := h (8 * i + (7 - j)) (by omega)
      unfold digAt at this
      rw [show (8 * i + (7 - j)) / 8 = i by omega, show 7 - (8 * i + (7 - j)) % 8 = j by omega] at this
      exact this
    simp [hi, show i < m.length by omega] at e ⊢
    exact e
  · rw [List.getElem?_eq_none (by omega), List.getElem?_eq_none (by omega)]

/-! ### sums over digits by their places -/
theorem digitsD_at (x : BitVec 8) (k : Nat) (hk : k < 8) : x.getMsbD k = ((x.toNat : Int)).toNat.testBit (7 - k) := by
  rw [BitVec.getMsbD_eq_getLsbD, BitVec.getLsbD, Int.toNat_natCast]; simp [hk]
theorem digits_eq : ∀ m : List (BitVec 8), digits m = (List.range (8 * (ints m).length)).map (digAt (ints m))
  | [] => rfl
  | x :: m => by
    have e : 8 * (ints (x :: m)).length = 8 + 8 * (ints m).length := by simp [ints]; omega
    rw [e, List.range_add, List.map_append, List.map_map]
    show digitsD x ++ digits m = _
    rw [digits_eq m]
    have p1 : digitsD x = (List.range 8).map (digAt (ints (x :: m))) := by
      unfold digitsD
      refine List.map_congr_left fun k hk => ?_
      have hk8 : k < 8 := List.mem_range.1 hk
      rw [digitsD_at x k hk8]
      unfold digAt
      rw [show k / 8 = 0 by omega, show k % 8 = k by omega]; rfl
    have p2 : (List.range (8 * (ints m).length)).map (digAt (ints m)) = (List.range (8 * (ints m).length)).map (digAt (ints (x :: m)) ∘ fun x => 8 + x) := by
      refine List.map_congr_left fun k _ => ?_
      show _ = digAt (ints (x :: m)) (8 + k)
      unfold digAt
      rw [show (8 + k) / 8 = k / 8 + 1 by omega, show (8 + k) % 8 = k % 8 by omega]; rfl
    rw [p1, p2]
theorem sum_digs {l : List Int} (h : B8 l) : sumI l = ((runD 65535#16 ((List.range (8 * l.length)).map (digAt l))).toNat : Int) := by
  obtain ⟨m, rfl⟩ := ints_of l h
  rw [sumI_eq, digits_eq]
theorem runD_lin' (f g : Nat → Bool) (a b : BitVec 16) : ∀ n, runD (a ^^^ b) ((List.range n).map fun k => f k ^^ g k) = runD a ((List.range n).map f) ^^^ runD b ((List.range n).map g)
  | 0 => rfl
  | n + 1 => by
    simp only [List.range_succ, List.map_append, runD_append]
    rw [runD_lin' f g a b n]
    exact stepD_lin ..

/-! ### bursts -/
theorem run16_list (W : List Bool) (hW : W.length = 16) (h : runD 0#16 W = 0#16) : ∀ b ∈ W, b = false := by
  have e : digits16 ((BitVec.ofBoolListBE W).cast hW) = W := by
    unfold digits16
    apply List.ext_getElem
    · simp [hW]
    · intro i h1 h2
      simp [h2]
  have z := (run16 0#16 ((BitVec.ofBoolListBE W).cast hW)).1 (by rw [e]; exact h)
  rw [← z] at e
  intro b hb
  rw [← e] at hb
  simp [digits16] at hb
  exact (And.symm hb).1
theorem map_false {g : Nat → Bool} {n : Nat} (h : ∀ j, j < n → g j = false) : (List.range n).map g = List.replicate n false := by
  apply List.ext_getElem
  · simp
  · intro i h1 h2
    simp at h1
    simp [h i h1]
theorem burst (g : Nat → Bool) (b M : Nat) (hb : b + 16 ≤ M) (h0 : ∀ j, j < M → g j = true → b ≤ j ∧ j < b + 16) (h : runD 0#16 ((List.range M).map g) = 0#16) : ∀ j, j < M → g j = false := by
  obtain ⟨c, rfl⟩ : ∃ c, M = b + 16 + c := ⟨M - (b + 16), by omega⟩
  rw [List.range_add, List.map_append, List.range_add, List.map_append, List.map_map, List.map_map, runD_append, runD_append] at h
  have n1 : (List.range b).map g = List.replicate b false := map_false fun j hj => by
    cases hg : g j with
    | false => rfl
    | true => have := h0 j (by omega) hg; omega
  have n2 : (List.range c).map (g ∘ fun x => b + 16 + x) = List.replicate c false := map_false fun j hj => by
    show g (b + 16 + j) = false
    cases hg : g (b + 16 + j) with
    | false => rfl
    | true => have := h0 (b + 16 + j) (by omega) hg; omega
  rw [n1, n2, runD_falses0] at h
  have h2 := runD_falses _ _ h
  have h3 := run16_list _ (by simp) h2
  intro j hj
  cases hg : g j with
  | false => rfl
  | true =>
    have hw := h0 j hj hg
    have := h3 (g j) (List.mem_map.2 ⟨j - b, List.mem_range.2 (by omega), by show g (b + (j - b)) = g j; congr 1; omega⟩)
    rw [hg] at this; exact this
theorem burst_in (e : Nat → Bool) (N : Nat) (bit : Int) (h0 : ∀ k : Nat, k < N → e k = true → bit ≤ k ∧ k < bit + 16) (h : runD 0#16 ((List.range N).map e) = 0#16) : ∀ k, k < N → e k = false := by
  by_cases hb : bit ≤ -16 ∨ N ≤ bit
  · intro k hk
    cases he : e k with
    | false => rfl
    | true => have := h0 k hk he; omega
  obtain ⟨b, hb'⟩ : ∃ b : Nat, bit + 16 = (b : Int) := ⟨(bit + 16).toNat, by omega⟩
  let g : Nat → Bool := fun j => if 16 ≤ j ∧ j < 16 + N then e (j - 16) else false
  have hg : ∀ j, j < 16 + N + 16 → g j = false := by
    refine burst g b (16 + N + 16) (by omega) ?_ ?_
    · intro j hj hgj
      by_cases hj2 : 16 ≤ j ∧ j < 16 + N
      · have : e (j - 16) = true := by simpa [g, hj2] using hgj
        have := h0 (j - 16) (by omega) this
        omega
      · simp [g, hj2] at hgj
    · rw [List.range_add, List.map_append, List.range_add, List.map_append, List.map_map, List.map_map, runD_append, runD_append]
      rw [map_false (n := 16) (g := g) fun j hj => if_neg (by omega), runD_falses0]
      have e1 : (List.range N).map (g ∘ fun x => 16 + x) = (List.range N).map e := List.map_congr_left fun k hk => by
        have : k < N := List.mem_range.1 hk
        show (if 16 ≤ 16 + k ∧ 16 + k < 16 + N then e (16 + k - 16) else false) = e k
        rw [if_pos (by omega), show 16 + k - 16 = k by omega]
      rw [e1, h, map_false (n := 16) fun j hj => by show (if 16 ≤ 16 + N + j ∧ 16 + N + j < 16 + N then e (16 + N + j - 16) else false) = false; exact if_neg (by omega), runD_falses0]
  intro k hk
  have := hg (16 + k) (by omega)
  have e2 : g (16 + k) = e k := by
    show (if 16 ≤ 16 + k ∧ 16 + k < 16 + N then e (16 + k - 16) else false) = e k
    rw [if_pos (by omega), show 16 + k - 16 = k by omega]
  rw [← e2]; exact this

/-- Bytes with the sum 0, spoilt, have it only if nothing was spoilt. -/
theorem spoil_found {l : List Int} {bit mask : Int} (h8 : B8 l) (hm0 : 0 ≤ mask) (hm1 : mask < 65536) (h : sumI l = 0) (h' : sumI (spoilI l bit mask) = 0) : spoilI l bit mask = l := by
  have q := spoilI_b8 h8 bit mask
  rw [sum_digs h8] at h
  rw [sum_digs q, spoilI_len] at h'
  have z : runD 65535#16 ((List.range (8 * l.length)).map (digAt l)) = 0#16 := BitVec.eq_of_toNat_eq (by simpa using h)
  have z' : runD 65535#16 ((List.range (8 * l.length)).map (digAt (spoilI l bit mask))) = 0#16 := BitVec.eq_of_toNat_eq (by simpa using h')
  have e : (List.range (8 * l.length)).map (digAt (spoilI l bit mask)) = (List.range (8 * l.length)).map (fun k => digAt l k ^^ hit bit mask k) :=
    List.map_congr_left fun k hk => spoilI_dig h8 hm0 hm1 k (List.mem_range.1 hk)
  have lin := runD_lin' (digAt l) (hit bit mask) 65535#16 0#16 (8 * l.length)
  rw [BitVec.xor_zero, ← e, z, z', BitVec.zero_xor] at lin
  have none := burst_in (hit bit mask) (8 * l.length) bit (fun k _ hk => by simp [hit] at hk; exact hk.1) lin.symm
  refine digs_ext q h8 (spoilI_len ..) fun k hk => ?_
  rw [spoilI_len] at hk
  rw [spoilI_dig h8 hm0 hm1 k hk, none k hk, Bool.xor_false]
theorem spoil_twice {l : List Int} {bit mask : Int} (h8 : B8 l) (hm0 : 0 ≤ mask) (hm1 : mask < 65536) : spoilI (spoilI l bit mask) bit mask = l := by
  refine digs_ext (spoilI_b8 (spoilI_b8 h8 _ _) _ _) h8 (by rw [spoilI_len, spoilI_len]) fun k hk => ?_
  rw [spoilI_len, spoilI_len] at hk
  rw [spoilI_dig (spoilI_b8 h8 _ _) hm0 hm1 k (by rw [spoilI_len]; exact hk), spoilI_dig h8 hm0 hm1 k hk, Bool.xor_assoc, Bool.xor_self, Bool.xor_false]
theorem spoil_zero {l : List Int} {bit : Int} (h8 : B8 l) : spoilI l bit 0 = l := by
  refine digs_ext (spoilI_b8 h8 _ _) h8 (by rw [spoilI_len]) fun k hk => ?_
  rw [spoilI_len] at hk
  rw [spoilI_dig h8 (by omega) (by omega) k hk]
  simp [hit, mdig]
theorem spoil_past {l : List Int} {bit mask : Int} (h : bit ≤ -16 ∨ 8 * l.length ≤ bit) : spoilI l bit mask = l := spN_out h 16 (by omega)
end Go.Proofs.Ytgeiagndpfdnlaa.B
