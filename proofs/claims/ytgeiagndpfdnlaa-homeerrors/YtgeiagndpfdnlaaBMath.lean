/- The plain mathematics of chapter 1: a sum digit by digit as the walk spells it (over Int), the same over BitVec 16, that it is linear, and that no burst of up to sixteen digits gives 0. No condition. -/
import Derived.WalkKit
import Derived.Laws.BitsAllLaws
namespace Go.Proofs.Ytgeiagndpfdnlaa.B
open Go.RowKit

/-! ### as the walk spells it -/
def stepI (s d : Int) : Int := if bits .xor .u16 (s / 32768) d == 1 then bits .xor .u16 (IntKind.u16.wrap (s * 2)) 4129 else IntKind.u16.wrap (s * 2)
theorem stepI_t {s d : Int} (h : (bits .xor .u16 (s / 32768) d == 1) = true) : stepI s d = bits .xor .u16 (IntKind.u16.wrap (s * 2)) 4129 := by unfold stepI; rw [h]; rfl
theorem stepI_f {s d : Int} (h : (bits .xor .u16 (s / 32768) d == 1) = false) : stepI s d = IntKind.u16.wrap (s * 2) := by unfold stepI; rw [h]; rfl
def digI (x : Int) (k : Nat) : Int := bits .and .u16 (IntKind.u16.wrap (x / 2 ^ (7 - k))) 1
def goI (s x : Int) (k : Nat) : Int := (List.range k).foldl (fun s j => stepI s (digI x j)) s
def byteI (s x : Int) : Int := goI s x 8
def sumI (l : List Int) : Int := l.foldl byteI 65535
/-- Bytes. -/
def B8 (l : List Int) : Prop := ∀ x ∈ l, 0 ≤ x ∧ x < 256

theorem goI_zero (s x : Int) : goI s x 0 = s := rfl
theorem goI_succ (s x : Int) (k : Nat) : goI s x (k + 1) = stepI (goI s x k) (digI x k) := by
  unfold goI; rw [List.range_succ, List.foldl_append]; rfl
theorem sumI_snoc (l : List Int) (x : Int) : sumI (l ++ [x]) = byteI (sumI l) x := by unfold sumI; rw [List.foldl_append]; rfl
theorem sumI_take (l : List Int) (k : Nat) (h : k < l.length) : sumI (l.take (k + 1)) = byteI (sumI (l.take k)) (l[k]?.getD 0) := by
  rw [List.take_succ_eq_append_getElem h, sumI_snoc]; simp [h]

/-! ### the same over BitVec -/
def stepD (s : BitVec 16) (d : Bool) : BitVec 16 := if (s.msb ^^ d) then (s <<< 1) ^^^ 4129#16 else s <<< 1
def digitsD (x : BitVec 8) : List Bool := (List.range 8).map x.getMsbD
def runD (s : BitVec 16) (ds : List Bool) : BitVec 16 := ds.foldl stepD s

theorem bitI (d : Bool) : (cond d 1 0 : Int) = ((cond d 1 0 : Nat) : Int) := by cases d <;> rfl
theorem stepI_eq (s : BitVec 16) (d : Bool) : stepI (s.toNat : Int) (cond d 1 0) = ((stepD s d).toNat : Int) := by
  have hs := s.isLt
  have e1 : ((s.toNat : Int) / 32768) = ((s.toNat / 32768 : Nat) : Int) := by omega
  have e2 : IntKind.u16.wrap ((s.toNat : Int) * 2) = ((s.toNat * 2 % 65536 : Nat) : Int) := by rw [IntKind.wrap_u16]; omega
  have hd : (cond d 1 0 : Nat) < 65536 := by cases d <;> decide
  have e3 : bits .xor .u16 ((s.toNat : Int) / 32768) (cond d 1 0) = ((s.toNat / 32768 ^^^ cond d 1 0 : Nat) : Int) := by
    rw [e1, bitI]; exact u16_xor_nat _ _ (by omega) hd
  have e4 : bits .xor .u16 ((s.toNat * 2 % 65536 : Nat) : Int) 4129 = ((s.toNat * 2 % 65536 ^^^ 4129 : Nat) : Int) := u16_xor_nat _ 4129 (by omega) (by decide)
  have e5 : (s <<< 1).toNat = s.toNat * 2 % 65536 := by simp [BitVec.toNat_shiftLeft, Nat.shiftLeft_eq]
  have em : s.msb = decide (32768 ≤ s.toNat) := by rw [BitVec.msb_eq_decide]
  unfold stepI stepD
  rw [e3, e2, e4, em]
  by_cases hm : 32768 ≤ s.toNat
  · have q : s.toNat / 32768 = 1 := by omega
    rw [q]
    cases d
    · simp [hm, e5]
    · simp [hm, e5]
  · have q : s.toNat / 32768 = 0 := by omega
    rw [q]
    cases d
    · simp [hm, e5]
    · simp [hm, e5]

theorem digI_eq (x : BitVec 8) (k : Nat) (hk : k < 8) : digI (x.toNat : Int) k = cond (x.getMsbD k) 1 0 := by
  have hx := x.isLt
  have e1 : ((x.toNat : Int) / 2 ^ (7 - k)) = ((x.toNat / 2 ^ (7 - k) : Nat) : Int) := by simp
  have hle : x.toNat / 2 ^ (7 - k) ≤ x.toNat := Nat.div_le_self _ _
  have e2 : ∀ y : Nat, y < 65536 → IntKind.u16.wrap (y : Int) = (y : Int) := fun y hy => by rw [IntKind.wrap_u16]; omega
  unfold digI
  rw [e1, e2 _ (by omega)]
  have e3 := u16_and_nat (x.toNat / 2 ^ (7 - k)) 1 (by omega) (by decide)
  rw [show (1 : Int) = ((1 : Nat) : Int) from rfl, e3, Nat.and_one_is_mod]
  have e4 : x.getMsbD k = decide (x.toNat / 2 ^ (7 - k) % 2 = 1) := by
    rw [BitVec.getMsbD_eq_getLsbD, BitVec.getLsbD, Nat.testBit_eq_decide_div_mod_eq]
    simp [hk]
  rw [e4]
  rcases Nat.mod_two_eq_zero_or_one (x.toNat / 2 ^ (7 - k)) with h | h <;> simp [h]

theorem goI_eq (s : BitVec 16) (x : BitVec 8) : ∀ k, k ≤ 8 → goI (s.toNat : Int) (x.toNat : Int) k = ((runD s ((List.range k).map x.getMsbD)).toNat : Int)
  | 0, _ => rfl
  | k + 1, h => by
    rw [goI_succ, goI_eq s x k (by omega), digI_eq x k (by omega), stepI_eq]
    unfold runD
    rw [List.range_succ, List.map_append, List.foldl_append]; rfl
theorem byteI_eq (s : BitVec 16) (x : BitVec 8) : byteI (s.toNat : Int) (x.toNat : Int) = ((runD s (digitsD x)).toNat : Int) := goI_eq s x 8 (by omega)

def ints (l : List (BitVec 8)) : List Int := l.map fun x => (x.toNat : Int)
def digits (l : List (BitVec 8)) : List Bool := l.flatMap digitsD
theorem foldI_eq (l : List (BitVec 8)) : ∀ s : BitVec 16, (ints l).foldl byteI (s.toNat : Int) = ((runD s (digits l)).toNat : Int) := by
  induction l with
  | nil => intro s; rfl
  | cons x l ih =>
    intro s
    have : ints (x :: l) = (x.toNat : Int) :: ints l := rfl
    rw [this, List.foldl_cons, byteI_eq, ih]
    simp [digits, runD, List.flatMap_cons, List.foldl_append]
theorem sumI_eq (l : List (BitVec 8)) : sumI (ints l) = ((runD 65535#16 (digits l)).toNat : Int) := foldI_eq l 65535#16
theorem ints_of (l : List Int) (h : B8 l) : ∃ m : List (BitVec 8), l = ints m := by
  refine ⟨l.map fun x => BitVec.ofNat 8 x.toNat, ?_⟩
  unfold ints
  rw [List.map_map]
  conv => lhs; rw [← List.map_id l]
  refine List.map_congr_left fun x hx => ?_
  obtain ⟨h0, h1⟩ := h x hx
  simp [Function.comp]
  omega
theorem B8_ints (m : List (BitVec 8)) : B8 (ints m) := by
  intro x hx
  obtain ⟨y, _, rfl⟩ := List.mem_map.1 hx
  have := y.isLt
  omega
theorem word_of (s : Int) (h0 : 0 ≤ s) (h1 : s < 65536) : ∃ t : BitVec 16, s = (t.toNat : Int) := ⟨BitVec.ofNat 16 s.toNat, by simp; omega⟩
theorem byte_of (s : Int) (h0 : 0 ≤ s) (h1 : s < 256) : ∃ t : BitVec 8, s = (t.toNat : Int) := ⟨BitVec.ofNat 8 s.toNat, by simp; omega⟩
theorem goI_bd (s x : Int) (k : Nat) (hk : k ≤ 8) (h0 : 0 ≤ s) (h1 : s < 65536) (h2 : 0 ≤ x) (h3 : x < 256) : 0 ≤ goI s x k ∧ goI s x k < 65536 := by
  obtain ⟨s, rfl⟩ := word_of s h0 h1
  obtain ⟨x, rfl⟩ := byte_of x h2 h3
  rw [goI_eq s x k hk]
  have := (runD s ((List.range k).map x.getMsbD)).isLt
  omega
theorem sumI_bd (l : List Int) (h : B8 l) : 0 ≤ sumI l ∧ sumI l < 65536 := by
  obtain ⟨m, rfl⟩ := ints_of l h
  rw [sumI_eq]
  have := (runD 65535#16 (digits m)).isLt
  omega
theorem B8_take {l : List Int} (h : B8 l) (k : Nat) : B8 (l.take k) := fun x hx => h x (List.mem_of_mem_take hx)
theorem B8_drop {l : List Int} (h : B8 l) (k : Nat) : B8 (l.drop k) := fun x hx => h x (List.mem_of_mem_drop hx)
theorem B8_append {l m : List Int} (h : B8 l) (k : B8 m) : B8 (l ++ m) := fun x hx => (List.mem_append.1 hx).elim (h x) (k x)
theorem B8_get {l : List Int} (h : B8 l) (k : Nat) : 0 ≤ l[k]?.getD 0 ∧ l[k]?.getD 0 < 256 := by
  by_cases hk : k < l.length
  · simp only [hk, List.getElem?_eq_getElem, Option.getD_some]; exact h _ (List.getElem_mem hk)
  · rw [List.getElem?_eq_none (by omega)]; simp

theorem dig_alt (x : Int) (k : Nat) (h0 : 0 ≤ x) (h1 : x < 256) : IntKind.u16.wrap (bits .and .u8 (x / 2 ^ (7 - k)) 1) = digI x k := by
  obtain ⟨y, rfl⟩ := Int.eq_ofNat_of_zero_le h0
  have e1 : ((y : Int) / 2 ^ (7 - k)) = ((y / 2 ^ (7 - k) : Nat) : Int) := by simp
  have hle : y / 2 ^ (7 - k) ≤ y := Nat.div_le_self _ _
  have e2 : ∀ y : Nat, y < 65536 → IntKind.u16.wrap (y : Int) = (y : Int) := fun y hy => by rw [IntKind.wrap_u16]; omega
  unfold digI
  rw [e1, e2 _ (by omega)]
  have a1 := u16_and_nat (y / 2 ^ (7 - k)) 1 (by omega) (by decide)
  have a2 := u8_and_nat (y / 2 ^ (7 - k)) 1 (by omega) (by decide)
  rw [show (1 : Int) = ((1 : Nat) : Int) from rfl, a1, a2, Nat.and_one_is_mod, e2 _ (by omega)]
theorem digI_01 (x : Int) (k : Nat) (hk : k < 8) (h0 : 0 ≤ x) (h1 : x < 256) : digI x k = 0 ∨ digI x k = 1 := by
  obtain ⟨x, rfl⟩ := byte_of x h0 h1
  rw [digI_eq x k hk]
  cases x.getMsbD k <;> simp
theorem xor01 (s d : Int) (h0 : 0 ≤ s) (h1 : s < 65536) (hd : d = 0 ∨ d = 1) : (bits .xor .u16 (s / 32768) d == 1) = (s / 32768 != d) := by
  have hs : s / 32768 = 0 ∨ s / 32768 = 1 := by omega
  have c00 : (bits .xor .u16 0 0 == 1) = ((0 : Int) != 0) := by decide +kernel
  have c01 : (bits .xor .u16 0 1 == 1) = ((0 : Int) != 1) := by decide +kernel
  have c10 : (bits .xor .u16 1 0 == 1) = ((1 : Int) != 0) := by decide +kernel
  have c11 : (bits .xor .u16 1 1 == 1) = ((1 : Int) != 1) := by decide +kernel
  rcases hs with h | h <;> rcases hd with rfl | rfl <;> rw [h] <;> assumption
theorem alt_t {s x : Int} {k : Nat} (hk : k < 8) (s0 : 0 ≤ s) (s1 : s < 65536) (h0 : 0 ≤ x) (h1 : x < 256) (h : (s / 32768 != IntKind.u16.wrap (bits .and .u8 (x / 2 ^ (7 - k)) 1)) = true) :
    stepI s (digI x k) = bits .xor .u16 (IntKind.u16.wrap (s * 2)) 4129 := by
  rw [dig_alt x k h0 h1, ← xor01 s _ s0 s1 (digI_01 x k hk h0 h1)] at h
  exact stepI_t h
theorem alt_f {s x : Int} {k : Nat} (hk : k < 8) (s0 : 0 ≤ s) (s1 : s < 65536) (h0 : 0 ≤ x) (h1 : x < 256) (h : (s / 32768 != IntKind.u16.wrap (bits .and .u8 (x / 2 ^ (7 - k)) 1)) = false) :
    stepI s (digI x k) = IntKind.u16.wrap (s * 2) := by
  rw [dig_alt x k h0 h1, ← xor01 s _ s0 s1 (digI_01 x k hk h0 h1)] at h
  exact stepI_f h

/-! ### linear, and without a kernel -/
def T (s : BitVec 16) : BitVec 16 := stepD s false
theorem stepD_lin (a b : BitVec 16) (c d : Bool) : stepD (a ^^^ b) (c ^^ d) = stepD a c ^^^ stepD b d := by
  unfold stepD
  rw [BitVec.msb_xor, BitVec.shiftLeft_xor_distrib]
  have e : (4129#16 ^^^ 4129#16) = 0#16 := by decide
  have k1 : ∀ p q : BitVec 16, p ^^^ 4129#16 ^^^ (q ^^^ 4129#16) = p ^^^ q := by
    intro p q
    rw [BitVec.xor_assoc, ← BitVec.xor_assoc 4129#16, BitVec.xor_comm 4129#16 q, BitVec.xor_assoc q, e, BitVec.xor_zero]
  have k2 : ∀ p q : BitVec 16, p ^^^ q ^^^ 4129#16 = p ^^^ 4129#16 ^^^ q := by
    intro p q
    rw [BitVec.xor_assoc, BitVec.xor_comm q, ← BitVec.xor_assoc]
  cases ha : a.msb <;> cases hb : b.msb <;> cases c <;> cases d <;> simp [k1, k2, BitVec.xor_assoc] <;> exact BitVec.xor_comm _ _
theorem runD_lin : ∀ (ds es : List Bool), ds.length = es.length → ∀ (a b : BitVec 16), runD (a ^^^ b) (List.zipWith (fun c d => c ^^ d) ds es) = runD a ds ^^^ runD b es := by
  intro ds
  induction ds with
  | nil => intro es he a b; cases es with
    | nil => rfl
    | cons e es => simp at he
  | cons d ds ih =>
    intro es he a b
    cases es with
    | nil => simp at he
    | cons e es =>
      show runD (stepD (a ^^^ b) (d ^^ e)) _ = runD (stepD a d) ds ^^^ runD (stepD b e) es
      rw [stepD_lin]
      exact ih es (by simpa using he) _ _
theorem T_zero : T 0#16 = 0#16 := by decide
theorem msb_iff (s : BitVec 16) : s.msb = decide (32768 ≤ s.toNat) := by rw [BitVec.msb_eq_decide]
/-- T kills nothing but 0. -/
theorem T_inj0 (s : BitVec 16) (h : T s = 0#16) : s = 0#16 := by
  unfold T stepD at h
  rw [Bool.xor_false, msb_iff] at h
  have e5 : (s <<< 1).toNat = s.toNat * 2 % 65536 := by simp [BitVec.toNat_shiftLeft, Nat.shiftLeft_eq]
  by_cases hm : 32768 ≤ s.toNat
  · simp only [hm, decide_true, if_true] at h
    have h2 : (s <<< 1) = 4129#16 := by
      have := congrArg (· ^^^ 4129#16) h
      simpa [BitVec.xor_assoc] using this
    have h3 := congrArg BitVec.toNat h2
    rw [e5] at h3
    simp at h3
    omega
  · simp only [hm, decide_false, Bool.false_eq_true, if_false] at h
    have h3 := congrArg BitVec.toNat h
    rw [e5] at h3
    simp at h3
    apply BitVec.eq_of_toNat_eq
    simp; omega
theorem stepD_T (s : BitVec 16) (d : Bool) : stepD s d = T (s ^^^ (if d then 32768#16 else 0#16)) := by
  unfold T
  have h := stepD_lin s (if d then 32768#16 else 0#16) d d
  rw [Bool.xor_self] at h
  rw [h]
  cases d
  · have : stepD 0#16 false = 0#16 := by decide
    simp [this]
  · have : stepD 32768#16 true = 0#16 := by decide
    simp [this]
theorem runD_falses (s : BitVec 16) : ∀ n, runD s (List.replicate n false) = 0#16 → s = 0#16
  | 0, h => h
  | n + 1, h => by
    have h' : runD (T s) (List.replicate n false) = 0#16 := h
    exact T_inj0 s (runD_falses (T s) n h')
theorem runD_falses0 : ∀ n, runD 0#16 (List.replicate n false) = 0#16
  | 0 => rfl
  | n + 1 => by
    show runD (T 0#16) (List.replicate n false) = 0#16
    rw [T_zero]; exact runD_falses0 n
theorem runD_append (s : BitVec 16) (a b : List Bool) : runD s (a ++ b) = runD (runD s a) b := List.foldl_append ..
end Go.Proofs.Ytgeiagndpfdnlaa.B
