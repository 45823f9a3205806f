/- Many queues and pools beside each other (Many): what is done with one leaves the others as they were. Nothing of the program but packets is named here.
The plain mathematics of chapter 1: a sum digit by digit as the walk spells it (over Int), the same over BitVec 16, that it is linear, and that no burst of up to sixteen digits gives 0. No condition.
More plain mathematics of chapter 1: bytes and their own sum have the sum 0, and only they. No condition.
The contracts of crc.Sum and of the helps Copy, Cut, Same, Within and wakes: what each call gives and what it leaves of the memory. Conditions: as each theorem states them.
The contracts of crc.Seal, crc.Open and the copy that Open hands out. Conditions: as each theorem states them.
What spoiling does to a list of bytes, as the walk spells it. No condition.
More plain mathematics of chapter 1: what Spoil does digit by digit, and that a burst of up to sixteen digits never leaves a sum as it was. No condition.
Small facts of bytes that several texts share. Conditions: as each theorem states them.
Packets as plain data: what may be, and their bytes. No condition.
Words as bytes and back; packets as bytes and back. No condition.
The contracts of packet's within, Check and flagByte. Conditions: as each theorem states them. -/
import Derived.Test.YtjdbjmfkheffdaaPart1
import Derived.WalkKit
import Derived.Laws.BitsAllLaws
import Derived.Test.YtjdbjmfkheffdaaRows
import Derived.WalkSpells
import Derived.BigQuiet
import Derived.WalkLawsBesides
import Derived.Laws.AppendOwnNone
import Derived.Laws.CopyOwn
import Derived.Deep.RegionHeld3
import Derived.Lib.SlBytesConst
import Derived.Deep.OwnRows
import Derived.BigRegion
import Derived.Deep.DeepCutAuto
import Derived.Deep.DrawnRows
section
namespace Go.Proofs.Ytjdbjmfkheffdaa
open Go.RowKit
set_option linter.unusedVariables false

/-- m queues or pools, number q at block G q; no two of them share memory, and none has memory of Z. -/
structure Many (w : World) (m : Nat) (G : Nat → Nat) (M D : Nat → Nat → Prop) (room : Nat → Int) (F : Nat → List Pk) (Z : Nat → Prop) : Prop where
  qu : ∀ q, q < m → Qu w (G q) (M q) (D q) (room q) (F q)
  dj : ∀ q q', q < m → q' < m → q ≠ q' → ∀ k, M q k ∨ D q k → ¬ (M q' k ∨ D q' k)
  nz : ∀ q, q < m → ∀ k, M q k ∨ D q k → ¬ Z k
theorem Many.old {w : World} {m : Nat} {G : Nat → Nat} {M D : Nat → Nat → Prop} {room : Nat → Int} {F : Nat → List Pk} {Z : Nat → Prop} (h : Many w m G M D room F Z) {q k : Nat} (hq : q < m) (hk : M q k ∨ D q k) : k < w.heap.size := (h.qu q hq).old k hk
theorem Many.keep {w w' : World} {m : Nat} {G : Nat → Nat} {M D : Nat → Nat → Prop} {room : Nat → Int} {F : Nat → List Pk} {Z X : Nat → Prop} (h : Many w m G M D room F Z) (hk : Keep X w w') (hX : ∀ q, q < m → ∀ k, M q k ∨ D q k → ¬ X k) : Many w' m G M D room F Z :=
  ⟨fun q hq => (h.qu q hq).keep hk (hX q hq), h.dj, h.nz⟩
theorem Many.below {w w' : World} {m : Nat} {G : Nat → Nat} {M D : Nat → Nat → Prop} {room : Nat → Int} {F : Nat → List Pk} {Z : Nat → Prop} (h : Many w m G M D room F Z) (hb : Below w.heap.size w w') : Many w' m G M D room F Z :=
  h.keep (X := fun _ => False) (Keep.of_below hb) (fun _ _ _ _ h => h)
theorem Many.zkeep {w w' : World} {m : Nat} {G : Nat → Nat} {M D : Nat → Nat → Prop} {room : Nat → Int} {F : Nat → List Pk} {Z : Nat → Prop} (h : Many w m G M D room F Z) (hk : Keep Z w w') : Many w' m G M D room F Z :=
  h.keep hk (fun q hq k hk => h.nz q hq k hk)
/-- One of them is turned. -/
theorem Many.step {w w' : World} {m q : Nat} {G : Nat → Nat} {M D : Nat → Nat → Prop} {room : Nat → Int} {F : Nat → List Pk} {Z M' D' : Nat → Prop} {L : List Pk} (h : Many w m G M D room F Z) (hq : q < m) (hk : Keep (M q) w w') (hqu : Qu w' (G q) M' D' (room q) L)
    (hM : ∀ k, M' k → M q k ∨ w.heap.size ≤ k) (hD : ∀ k, D' k → D q k ∨ w.heap.size ≤ k) (hZ : ∀ k, Z k → k < w.heap.size) : Many w' m G (upd M q M') (upd D q D') room (upd F q L) Z := by
  have hin : ∀ k, M' k ∨ D' k → (M q k ∨ D q k) ∨ w.heap.size ≤ k := fun k h => by
    rcases h with h | h
    · exact (hM k h).imp .inl id
    · exact (hD k h).imp .inr id
  refine ⟨fun x hx => ?_, fun x y hx hy hxy k h1 h2 => ?_, fun x hx k h1 hz => ?_⟩
  · by_cases hxq : x = q
    · subst hxq; rw [upd_same, upd_same, upd_same]; exact hqu
    · rw [upd_other _ _ hxq, upd_other _ _ hxq, upd_other _ _ hxq]
      exact (h.qu x hx).keep hk (fun k hk' hm => h.dj x q hx hq hxq k hk' (.inl hm))
  · by_cases hxq : x = q
    · subst hxq
      rw [upd_same, upd_same] at h1
      rw [upd_other _ _ (Ne.symm hxy), upd_other _ _ (Ne.symm hxy)] at h2
      rcases hin k h1 with h1 | h1
      · exact h.dj x y hx hy hxy k h1 h2
      · have := h.old hy h2; omega
    · rw [upd_other _ _ hxq, upd_other _ _ hxq] at h1
      by_cases hyq : y = q
      · subst hyq
        rw [upd_same, upd_same] at h2
        rcases hin k h2 with h2 | h2
        · exact h.dj x y hx hy hxy k h1 h2
        · have := h.old hx h1; omega
      · rw [upd_other _ _ hyq, upd_other _ _ hyq] at h2
        exact h.dj x y hx hy hxy k h1 h2
  · by_cases hxq : x = q
    · subst hxq
      rw [upd_same, upd_same] at h1
      rcases hin k h1 with h1 | h1
      · exact h.nz x hx k h1 hz
      · have := hZ k hz; omega
    · rw [upd_other _ _ hxq, upd_other _ _ hxq] at h1
      exact h.nz x hx k h1 hz
/-- One more of them, in new memory. -/
theorem Many.more {w w' : World} {m g : Nat} {G : Nat → Nat} {M D : Nat → Nat → Prop} {room : Nat → Int} {F : Nat → List Pk} {Z M' D' : Nat → Prop} {r : Int} {L : List Pk} (h : Many w m G M D room F Z) (hb : Below w.heap.size w w') (hqu : Qu w' g M' D' r L) (hnew : ∀ k, M' k ∨ D' k → w.heap.size ≤ k) (hZ : ∀ k, Z k → k < w.heap.size) :
    Many w' (m + 1) (upd G m g) (upd M m M') (upd D m D') (upd room m r) (upd F m L) Z := by
  have h' := h.below hb
  refine ⟨fun x hx => ?_, fun x y hx hy hxy k h1 h2 => ?_, fun x hx k h1 hz => ?_⟩
  · by_cases hxq : x = m
    · subst hxq; simp only [upd_same]; exact hqu
    · simp only [upd_other _ _ hxq]
      exact h'.qu x (by omega)
  · by_cases hxq : x = m
    · subst hxq
      rw [upd_same, upd_same] at h1
      rw [upd_other _ _ (Ne.symm hxy), upd_other _ _ (Ne.symm hxy)] at h2
      have := hnew k h1
      have := h.old (q := y) (by omega) h2
      omega
    · rw [upd_other _ _ hxq, upd_other _ _ hxq] at h1
      by_cases hyq : y = m
      · subst hyq
        rw [upd_same, upd_same] at h2
        have := hnew k h2
        have := h.old (q := x) (by omega) h1
        omega
      · rw [upd_other _ _ hyq, upd_other _ _ hyq] at h2
        exact h.dj x y (by omega) (by omega) hxy k h1 h2
  · by_cases hxq : x = m
    · subst hxq
      rw [upd_same, upd_same] at h1
      have := hnew k h1
      have := hZ k hz
      omega
    · rw [upd_other _ _ hxq, upd_other _ _ hxq] at h1
      exact h.nz x (by omega) k h1 hz
end Go.Proofs.Ytjdbjmfkheffdaa
end
section
namespace Go.Proofs.Ytjdbjmfkheffdaa.B
open Go.RowKit

/-! ### as the walk spells it -/
def stepI (s d : Int) : Int := if bits .xor .u16 (s / 32768) d == 1 then bits .xor .u16 (IntKind.u16.wrap (s * 2)) 4129 else IntKind.u16.wrap (s * 2)
theorem stepI_t {s d : Int} (h : (bits .xor .u16 (s / 32768) d == 1) = true) : stepI s d = bits .xor .u16 (IntKind.u16.wrap (s * 2)) 4129 := by unfold stepI; rw [h]; rfl
theorem stepI_f {s d : Int} (h : (bits .xor .u16 (s / 32768) d == 1) = false) : stepI s d = IntKind.u16.wrap (s * 2) := by unfold stepI; rw [h]; rfl
def digI (x : Int) (k : Nat) : Int := bits .and .u16 (IntKind.u16.wrap (x / 2 ^ (7 - k))) 1
def goI (s x : Int) (k : Nat) : Int := (List.range k).foldl (fun s j => stepI s (digI x j)) s
def byteI (s x : Int) : Int := goI s x 8
def sumI (l : List Int) : Int := l.foldl byteI 65535
/-- Bytes. -/
def B8 (l : List Int) : Prop := ∀ x ∈ l, 0 ≤ x ∧ x < 256

theorem goI_zero (s x : Int) : goI s x 0 = s := rfl
theorem goI_succ (s x : Int) (k : Nat) : goI s x (k + 1) = stepI (goI s x k) (digI x k) := by
  unfold goI; rw [List.range_succ, List.foldl_append]; rfl
theorem sumI_snoc (l : List Int) (x : Int) : sumI (l ++ [x]) = byteI (sumI l) x := by unfold sumI; rw [List.foldl_append]; rfl
theorem sumI_take (l : List Int) (k : Nat) (h : k < l.length) : sumI (l.take (k + 1)) = byteI (sumI (l.take k)) (l[k]?.getD 0) := by
  rw [List.take_succ_eq_append_getElem h, sumI_snoc]; simp [h]

/-! ### the same over BitVec -/
def stepD (s : BitVec 16) (d : Bool) : BitVec 16 := if (s.msb ^^ d) then (s <<< 1) ^^^ 4129#16 else s <<< 1
def digitsD (x : BitVec 8) : List Bool := (List.range 8).map x.getMsbD
def runD (s : BitVec 16) (ds : List Bool) : BitVec 16 := ds.foldl stepD s

theorem bitI (d : Bool) : (cond d 1 0 : Int) = ((cond d 1 0 : Nat) : Int) := by cases d <;> rfl
theorem stepI_eq (s : BitVec 16) (d : Bool) : stepI (s.toNat : Int) (cond d 1 0) = ((stepD s d).toNat : Int) := by
  have hs := s.isLt
  have e1 : ((s.toNat : Int) / 32768) = ((s.toNat / 32768 : Nat) : Int) := by omega
  have e2 : IntKind.u16.wrap ((s.toNat : Int) * 2) = ((s.toNat * 2 % 65536 : Nat) : Int) := by rw [IntKind.wrap_u16]; omega
  have hd : (cond d 1 0 : Nat) < 65536 := by cases d <;> decide
  have e3 : bits .xor .u16 ((s.toNat : Int) / 32768) (cond d 1 0) = ((s.toNat / 32768 ^^^ cond d 1 0 : Nat) : Int) := by
    rw [e1, bitI]; exact u16_xor_nat _ _ (by omega) hd
  have e4 : bits .xor .u16 ((s.toNat * 2 % 65536 : Nat) : Int) 4129 = ((s.toNat * 2 % 65536 ^^^ 4129 : Nat) : Int) := u16_xor_nat _ 4129 (by omega) (by decide)
  have e5 : (s <<< 1).toNat = s.toNat * 2 % 65536 := by simp [BitVec.toNat_shiftLeft, Nat.shiftLeft_eq]
  have em : s.msb = decide (32768 ≤ s.toNat) := by rw [BitVec.msb_eq_decide]
  unfold stepI stepD
  rw [e3, e2, e4, em]
  by_cases hm : 32768 ≤ s.toNat
  · have q : s.toNat / 32768 = 1 := by omega
    rw [q]
    cases d
    · simp [hm, e5]
    · simp [hm, e5]
  · have q : s.toNat / 32768 = 0 := by omega
    rw [q]
    cases d
    · simp [hm, e5]
    · simp [hm, e5]

theorem digI_eq (x : BitVec 8) (k : Nat) (hk : k < 8) : digI (x.toNat : Int) k = cond (x.getMsbD k) 1 0 := by
  have hx := x.isLt
  have e1 : ((x.toNat : Int) / 2 ^ (7 - k)) = ((x.toNat / 2 ^ (7 - k) : Nat) : Int) := by simp
  have hle : x.toNat / 2 ^ (7 - k) ≤ x.toNat := Nat.div_le_self _ _
  have e2 : ∀ y : Nat, y < 65536 → IntKind.u16.wrap (y : Int) = (y : Int) := fun y hy => by rw [IntKind.wrap_u16]; omega
  unfold digI
  rw [e1, e2 _ (by omega)]
  have e3 := u16_and_nat (x.toNat / 2 ^ (7 - k)) 1 (by omega) (by decide)
  rw [show (1 : Int) = ((1 : Nat) : Int) from rfl, e3, Nat.and_one_is_mod]
  have e4 : x.getMsbD k = decide (x.toNat / 2 ^ (7 - k) % 2 = 1) := by
    rw [BitVec.getMsbD_eq_getLsbD, BitVec.getLsbD, Nat.testBit_eq_decide_div_mod_eq]
    simp [hk]
  rw [e4]
  rcases Nat.mod_two_eq_zero_or_one (x.toNat / 2 ^ (7 - k)) with h | h <;> simp [h]

theorem goI_eq (s : BitVec 16) (x : BitVec 8) : ∀ k, k ≤ 8 → goI (s.toNat : Int) (x.toNat : Int) k = ((runD s ((List.range k).map x.getMsbD)).toNat : Int)
  | 0, _ => rfl
  | k + 1, h => by
    rw [goI_succ, goI_eq s x k (by omega), digI_eq x k (by omega), stepI_eq]
    unfold runD
    rw [List.range_succ, List.map_append, List.foldl_append]; rfl
theorem byteI_eq (s : BitVec 16) (x : BitVec 8) : byteI (s.toNat : Int) (x.toNat : Int) = ((runD s (digitsD x)).toNat : Int) := goI_eq s x 8 (by omega)

def ints (l : List (BitVec 8)) : List Int := l.map fun x => (x.toNat : Int)
def digits (l : List (BitVec 8)) : List Bool := l.flatMap digitsD
theorem foldI_eq (l : List (BitVec 8)) : ∀ s : BitVec 16, (ints l).foldl byteI (s.toNat : Int) = ((runD s (digits l)).toNat : Int) := by
  induction l with
  | nil => intro s; rfl
  | cons x l ih =>
    intro s
    have : ints (x :: l) = (x.toNat : Int) :: ints l := rfl
    rw [this, List.foldl_cons, byteI_eq, ih]
    simp [digits, runD, List.flatMap_cons, List.foldl_append]
theorem sumI_eq (l : List (BitVec 8)) : sumI (ints l) = ((runD 65535#16 (digits l)).toNat : Int) := foldI_eq l 65535#16
theorem ints_of (l : List Int) (h : B8 l) : ∃ m : List (BitVec 8), l = ints m := by
  refine ⟨l.map fun x => BitVec.ofNat 8 x.toNat, ?_⟩
  unfold ints
  rw [List.map_map]
  conv => lhs; rw [← List.map_id l]
  refine List.map_congr_left fun x hx => ?_
  obtain ⟨h0, h1⟩ := h x hx
  simp [Function.comp]
  omega
theorem B8_ints (m : List (BitVec 8)) : B8 (ints m) := by
  intro x hx
  obtain ⟨y, _, rfl⟩ := List.mem_map.1 hx
  have := y.isLt
  omega
theorem word_of (s : Int) (h0 : 0 ≤ s) (h1 : s < 65536) : ∃ t : BitVec 16, s = (t.toNat : Int) := ⟨BitVec.ofNat 16 s.toNat, by simp; omega⟩
theorem byte_of (s : Int) (h0 : 0 ≤ s) (h1 : s < 256) : ∃ t : BitVec 8, s = (t.toNat : Int) := ⟨BitVec.ofNat 8 s.toNat, by simp; omega⟩
theorem goI_bd (s x : Int) (k : Nat) (hk : k ≤ 8) (h0 : 0 ≤ s) (h1 : s < 65536) (h2 : 0 ≤ x) (h3 : x < 256) : 0 ≤ goI s x k ∧ goI s x k < 65536 := by
  obtain ⟨s, rfl⟩ := word_of s h0 h1
  obtain ⟨x, rfl⟩ := byte_of x h2 h3
  rw [goI_eq s x k hk]
  have := (runD s ((List.range k).map x.getMsbD)).isLt
  omega
theorem sumI_bd (l : List Int) (h : B8 l) : 0 ≤ sumI l ∧ sumI l < 65536 := by
  obtain ⟨m, rfl⟩ := ints_of l h
  rw [sumI_eq]
  have := (runD 65535#16 (digits m)).isLt
  omega
theorem B8_take {l : List Int} (h : B8 l) (k : Nat) : B8 (l.take k) := fun x hx => h x (List.mem_of_mem_take hx)
theorem B8_drop {l : List Int} (h : B8 l) (k : Nat) : B8 (l.drop k) := fun x hx => h x (List.mem_of_mem_drop hx)
theorem B8_append {l m : List Int} (h : B8 l) (k : B8 m) : B8 (l ++ m) := fun x hx => (List.mem_append.1 hx).elim (h x) (k x)
theorem B8_get {l : List Int} (h : B8 l) (k : Nat) : 0 ≤ l[k]?.getD 0 ∧ l[k]?.getD 0 < 256 := by
  by_cases hk : k < l.length
  · simp only [hk, List.getElem?_eq_getElem, Option.getD_some]; exact h _ (List.getElem_mem hk)
  · rw [List.getElem?_eq_none (by omega)]; simp

theorem dig_alt (x : Int) (k : Nat) (h0 : 0 ≤ x) (h1 : x < 256) : IntKind.u16.wrap (bits .and .u8 (x / 2 ^ (7 - k)) 1) = digI x k := by
  obtain ⟨y, rfl⟩ := Int.eq_ofNat_of_zero_le h0
  have e1 : ((y : Int) / 2 ^ (7 - k)) = ((y / 2 ^ (7 - k) : Nat) : Int) := by simp
  have hle : y / 2 ^ (7 - k) ≤ y := Nat.div_le_self _ _
  have e2 : ∀ y : Nat, y < 65536 → IntKind.u16.wrap (y : Int) = (y : Int) := fun y hy => by rw [IntKind.wrap_u16]; omega
  unfold digI
  rw [e1, e2 _ (by omega)]
  have a1 := u16_and_nat (y / 2 ^ (7 - k)) 1 (by omega) (by decide)
  have a2 := u8_and_nat (y / 2 ^ (7 - k)) 1 (by omega) (by decide)
  rw [show (1 : Int) = ((1 : Nat) : Int) from rfl, a1, a2, Nat.and_one_is_mod, e2 _ (by omega)]
theorem digI_01 (x : Int) (k : Nat) (hk : k < 8) (h0 : 0 ≤ x) (h1 : x < 256) : digI x k = 0 ∨ digI x k = 1 := by
  obtain ⟨x, rfl⟩ := byte_of x h0 h1
  rw [digI_eq x k hk]
  cases x.getMsbD k <;> simp
theorem xor01 (s d : Int) (h0 : 0 ≤ s) (h1 : s < 65536) (hd : d = 0 ∨ d = 1) : (bits .xor .u16 (s / 32768) d == 1) = (s / 32768 != d) := by
  have hs : s / 32768 = 0 ∨ s / 32768 = 1 := by omega
  have c00 : (bits .xor .u16 0 0 == 1) = ((0 : Int) != 0) := by decide +kernel
  have c01 : (bits .xor .u16 0 1 == 1) = ((0 : Int) != 1) := by decide +kernel
  have c10 : (bits .xor .u16 1 0 == 1) = ((1 : Int) != 0) := by decide +kernel
  have c11 : (bits .xor .u16 1 1 == 1) = ((1 : Int) != 1) := by decide +kernel
  rcases hs with h | h <;> rcases hd with rfl | rfl <;> rw [h] <;> assumption
theorem alt_t {s x : Int} {k : Nat} (hk : k < 8) (s0 : 0 ≤ s) (s1 : s < 65536) (h0 : 0 ≤ x) (h1 : x < 256) (h : (s / 32768 != IntKind.u16.wrap (bits .and .u8 (x / 2 ^ (7 - k)) 1)) = true) :
    stepI s (digI x k) = bits .xor .u16 (IntKind.u16.wrap (s * 2)) 4129 := by
  rw [dig_alt x k h0 h1, ← xor01 s _ s0 s1 (digI_01 x k hk h0 h1)] at h
  exact stepI_t h
theorem alt_f {s x : Int} {k : Nat} (hk : k < 8) (s0 : 0 ≤ s) (s1 : s < 65536) (h0 : 0 ≤ x) (h1 : x < 256) (h : (s / 32768 != IntKind.u16.wrap (bits .and .u8 (x / 2 ^ (7 - k)) 1)) = false) :
    stepI s (digI x k) = IntKind.u16.wrap (s * 2) := by
  rw [dig_alt x k h0 h1, ← xor01 s _ s0 s1 (digI_01 x k hk h0 h1)] at h
  exact stepI_f h

/-! ### linear, and without a kernel -/
def T (s : BitVec 16) : BitVec 16 := stepD s false
theorem stepD_lin (a b : BitVec 16) (c d : Bool) : stepD (a ^^^ b) (c ^^ d) = stepD a c ^^^ stepD b d := by
  unfold stepD
  rw [BitVec.msb_xor, BitVec.shiftLeft_xor_distrib]
  have e : (4129#16 ^^^ 4129#16) = 0#16 := by decide
  have k1 : ∀ p q : BitVec 16, p ^^^ 4129#16 ^^^ (q ^^^ 4129#16) = p ^^^ q := by
    intro p q
    rw [BitVec.xor_assoc, ← BitVec.xor_assoc 4129#16, BitVec.xor_comm 4129#16 q, BitVec.xor_assoc q, e, BitVec.xor_zero]
  have k2 : ∀ p q : BitVec 16, p ^^^ q ^^^ 4129#16 = p ^^^ 4129#16 ^^^ q := by
    intro p q
    rw [BitVec.xor_assoc, BitVec.xor_comm q, ← BitVec.xor_assoc]
  cases ha : a.msb <;> cases hb : b.msb <;> cases c <;> cases d <;> simp [k1, k2, BitVec.xor_assoc] <;> exact BitVec.xor_comm _ _
theorem runD_lin : ∀ (ds es : List Bool), ds.length = es.length → ∀ (a b : BitVec 16), runD (a ^^^ b) (List.zipWith (fun c d => c ^^ d) ds es) = runD a ds ^^^ runD b es := by
  intro ds
  induction ds with
  | nil => intro es he a b; cases es with
    | nil => rfl
    | cons e es => simp at he
  | cons d ds ih =>
    intro es he a b
    cases es with
    | nil => simp at he
    | cons e es =>
      show runD (stepD (a ^^^ b) (d ^^ e)) _ = runD (stepD a d) ds ^^^ runD (stepD b e) es
      rw [stepD_lin]
      exact ih es (by simpa using he) _ _
theorem T_zero : T 0#16 = 0#16 := by decide
theorem msb_iff (s : BitVec 16) : s.msb = decide (32768 ≤ s.toNat) := by rw [BitVec.msb_eq_decide]
/-- T kills nothing but 0. -/
theorem T_inj0 (s : BitVec 16) (h : T s = 0#16) : s = 0#16 := by
  unfold T stepD at h
  rw [Bool.xor_false, msb_iff] at h
  have e5 : (s <<< 1).toNat = s.toNat * 2 % 65536 := by simp [BitVec.toNat_shiftLeft, Nat.shiftLeft_eq]
  by_cases hm : 32768 ≤ s.toNat
  · simp only [hm, decide_true, if_true] at h
    have h2 : (s <<< 1) = 4129#16 := by
      have := congrArg (· ^^^ 4129#16) h
      simpa [BitVec.xor_assoc] using this
    have h3 := congrArg BitVec.toNat h2
    rw [e5] at h3
    simp at h3
    omega
  · simp only [hm, decide_false, Bool.false_eq_true, if_false] at h
    have h3 := congrArg BitVec.toNat h
    rw [e5] at h3
    simp at h3
    apply BitVec.eq_of_toNat_eq
    simp; omega
theorem stepD_T (s : BitVec 16) (d : Bool) : stepD s d = T (s ^^^ (if d then 32768#16 else 0#16)) := by
  unfold T
  have h := stepD_lin s (if d then 32768#16 else 0#16) d d
  rw [Bool.xor_self] at h
  rw [h]
  cases d
  · have : stepD 0#16 false = 0#16 := by decide
    simp [this]
  · have : stepD 32768#16 true = 0#16 := by decide
    simp [this]
theorem runD_falses (s : BitVec 16) : ∀ n, runD s (List.replicate n false) = 0#16 → s = 0#16
  | 0, h => h
  | n + 1, h => by
    have h' : runD (T s) (List.replicate n false) = 0#16 := h
    exact T_inj0 s (runD_falses (T s) n h')
theorem runD_falses0 : ∀ n, runD 0#16 (List.replicate n false) = 0#16
  | 0 => rfl
  | n + 1 => by
    show runD (T 0#16) (List.replicate n false) = 0#16
    rw [T_zero]; exact runD_falses0 n
theorem runD_append (s : BitVec 16) (a b : List Bool) : runD s (a ++ b) = runD (runD s a) b := List.foldl_append ..
end Go.Proofs.Ytjdbjmfkheffdaa.B
end
section
namespace Go.Proofs.Ytjdbjmfkheffdaa.B
open Go.RowKit

theorem run_own (s : BitVec 16) : ∀ k, runD s ((List.range k).map s.getMsbD) = s <<< k
  | 0 => by simp [runD]
  | k + 1 => by
    rw [List.range_succ, List.map_append, runD_append, run_own s k]
    show stepD (s <<< k) (s.getMsbD k) = _
    unfold stepD
    rw [BitVec.msb_shiftLeft, Bool.xor_self, if_neg (by simp), BitVec.shiftLeft_add]
def digits16 (s : BitVec 16) : List Bool := (List.range 16).map s.getMsbD
theorem run_own16 (s : BitVec 16) : runD s (digits16 s) = 0#16 := by
  unfold digits16; rw [run_own]; simp
theorem zip_falses : ∀ ds : List Bool, List.zipWith (fun c d => c ^^ d) (List.replicate ds.length false) ds = ds
  | [] => rfl
  | d :: ds => by simp [List.replicate_succ, zip_falses ds]
theorem run16 (s m : BitVec 16) : runD s (digits16 m) = 0#16 ↔ s = m := by
  constructor
  · intro h
    have e := runD_lin (List.replicate (digits16 m).length false) (digits16 m) (by simp) (s ^^^ m) m
    rw [zip_falses, BitVec.xor_assoc, BitVec.xor_self, BitVec.xor_zero, h, run_own16, BitVec.xor_zero] at e
    have := runD_falses _ _ e.symm
    rw [← BitVec.xor_zero (x := s), ← BitVec.xor_self (x := m), ← BitVec.xor_assoc, this, BitVec.zero_xor]
  · rintro rfl; exact run_own16 s
theorem digits_two (h g : BitVec 8) : digits [h, g] = digits16 (h ++ g) := by
  unfold digits digits16 digitsD
  simp only [List.flatMap_cons, List.flatMap_nil, List.append_nil]
  rw [show List.range 16 = List.range 8 ++ (List.range 8).map (8 + ·) by decide, List.map_append, List.map_map]
  congr 1
  · refine List.map_congr_left fun i hi => ?_
    have : i < 8 := List.mem_range.1 hi
    rw [BitVec.getMsbD_append]; simp [show ¬ 8 ≤ i by omega]
  · refine List.map_congr_left fun i hi => ?_
    show _ = (h ++ g).getMsbD (8 + i)
    rw [BitVec.getMsbD_append]; simp
theorem toNat_two (h g : BitVec 8) : (h ++ g).toNat = h.toNat * 256 + g.toNat := by
  rw [BitVec.toNat_append, ← Nat.shiftLeft_add_eq_or_of_lt g.isLt, Nat.shiftLeft_eq]
theorem sum_whole (l : List Int) (h g : Int) (h8 : B8 l) (h0 : 0 ≤ h) (h1 : h < 256) (g0 : 0 ≤ g) (g1 : g < 256) : sumI (l ++ [h, g]) = 0 ↔ sumI l = h * 256 + g := by
  obtain ⟨m, rfl⟩ := ints_of l h8
  obtain ⟨h, rfl⟩ := byte_of h h0 h1
  obtain ⟨g, rfl⟩ := byte_of g g0 g1
  have e : ints m ++ [(h.toNat : Int), (g.toNat : Int)] = ints (m ++ [h, g]) := by simp [ints]
  have d : digits (m ++ [h, g]) = digits m ++ digits [h, g] := by simp [digits]
  rw [e, sumI_eq, sumI_eq, d, runD_append, digits_two]
  have r := run16 (runD 65535#16 (digits m)) (h ++ g)
  have t := toNat_two h g
  generalize runD 65535#16 (digits m) = s at *
  generalize runD s (digits16 (h ++ g)) = u at *
  constructor
  · intro hu
    have : u = 0#16 := BitVec.eq_of_toNat_eq (by simpa using hu)
    rw [r.1 this]; omega
  · intro hs
    have : s = h ++ g := BitVec.eq_of_toNat_eq (by omega)
    rw [r.2 this]; rfl
theorem split_two {l : List Int} {m : Nat} (hl : l.length = m + 2) : l = l.take m ++ [l[m]?.getD 0, l[m + 1]?.getD 0] := by
  have a1 : l.take (m + 1) = l.take m ++ [l[m]?.getD 0] := by rw [List.take_succ_eq_append_getElem (by omega)]; simp [show m < l.length by omega]
  have a2 : l.take (m + 2) = l.take (m + 1) ++ [l[m + 1]?.getD 0] := by rw [List.take_succ_eq_append_getElem (by omega)]; simp [show m + 1 < l.length by omega]
  rw [List.take_of_length_le (by omega), a1] at a2
  simpa using a2
theorem sum_whole' {l : List Int} {m : Nat} (hl : l.length = m + 2) (h8 : B8 l) : sumI l = 0 ↔ sumI (l.take m) = l[m]?.getD 0 * 256 + l[m + 1]?.getD 0 := by
  have a := B8_get h8 m
  have b := B8_get h8 (m + 1)
  have := sum_whole (l.take m) _ _ (B8_take h8 m) a.1 a.2 b.1 b.2
  rw [← split_two hl] at this
  exact this
end Go.Proofs.Ytjdbjmfkheffdaa.B
end
section
namespace Go.Proofs.Ytjdbjmfkheffdaa.B
open Go.RowKit
set_option linter.unusedVariables false

theorem ret_bool {a b : Bool} (h : a = b) : Ending.returned (.bool a) = .returned (.bool b) := by rw [h]
theorem ret_int {k : IntKind} {a b : Int} (h : a = b) : Ending.returned (.int k a) = .returned (.int k b) := by rw [h]

/-- The bytes l lie where a slice at address a says. -/
def Row (w : World) (a : Option Addr) (l : List Int) : Prop :=
  l = [] ∨ ∃ b o, a = some ⟨b, o, none⟩ ∧ ∀ i, i < l.length → w.cell? ⟨b, o + i, none⟩ = some (.int .u8 (l[i]?.getD 0))

/-- A slice of bytes: nil, or so many cells, not more than its capacity. -/
structure Sl (w : World) (a : Option Addr) (n cap : Nat) (l : List Int) : Prop where
  len : l.length = n
  le : n ≤ cap
  max : cap ≤ maxLen
  nil : a = none → cap = 0
  b8 : B8 l
  row : Row w a l
def cells (l : List Int) : List Value := l.map (Value.int .u8)
/-- A slice of bytes that was made since the heap had 'base' blocks, and is nobody else's. -/
def Own (w : World) (base : Nat) (v : Value) (l : List Int) : Prop := w.ownsRow base 5 1 v l.length (cells l) ∧ B8 l

theorem cells_get {l : List Int} {j : Nat} {u : Value} (h : (cells l)[j]? = some u) : j < l.length ∧ u = .int .u8 (l[j]?.getD 0) := by
  have hj : j < l.length := by have := (List.getElem?_eq_some_iff.1 h).1; simpa [cells] using this
  refine ⟨hj, ?_⟩
  simp [cells, hj] at h
  simp [hj, h]
theorem Own.sl {w : World} {base : Nat} {v : Value} {l : List Int} (h : Own w base v l) : ∃ a cap, v = .slice a l.length cap ∧ Sl w a l.length cap l := by
  obtain ⟨⟨h1, h2⟩, h8⟩ := h
  rcases h2 with ⟨rfl, h0⟩ | ⟨g, cap, cur, rfl, hb, hg, hle, hm, hsz, ht⟩
  · have : l = [] := List.eq_nil_of_length_eq_zero h0
    subst this
    exact ⟨none, 0, rfl, rfl, Nat.le_refl _, Nat.zero_le _, fun _ => rfl, h8, .inl rfl⟩
  · refine ⟨some ⟨g, 0, none⟩, cap, rfl, rfl, hle, hm, fun h => (by cases h), h8, Or.inr ⟨g, 0, rfl, fun i hi => ?_⟩⟩
    rw [Nat.zero_add, cell_of_row w g i cur 5 (0, 0) hg]
    have e : (cells l)[i]? = some (.int .u8 (l[i]?.getD 0)) := by simp [cells, hi]
    rw [← ht, List.getElem?_take] at e
    split at e
    · simpa using e
    · cases e
theorem Own.sl' {w : World} {base n : Nat} {v : Value} {l : List Int} (h : Own w base v l) (hn : l.length = n) : ∃ a cap, v = .slice a n cap ∧ Sl w a n cap l := by
  subst hn; exact h.sl
theorem Row.cellsAt {w : World} {x : Addr} {l : List Int} (h : Row w (some x) l) : ∀ j u, (cells l)[j]? = some u → w.cell? (x.add j) = some u := by
  intro j u hu
  obtain ⟨hj, rfl⟩ := cells_get hu
  rcases h with rfl | ⟨b, o, e, hc⟩
  · simp at hj
  · obtain rfl := Option.some.inj e
    rw [Addr.add_lit]; exact hc j hj
theorem cells_one (l : List Int) : ∀ u ∈ cells l, u.oneCell' = true := ints_oneCell .u8 l
theorem Row.take {w : World} {a : Option Addr} {l : List Int} (h : Row w a l) (k : Nat) : Row w a (l.take k) := by
  rcases h with rfl | ⟨b, o, rfl, hc⟩
  · exact .inl (by simp)
  · refine .inr ⟨b, o, rfl, fun i hi => ?_⟩
    have hi' : i < k ∧ i < l.length := by simp at hi; omega
    rw [hc i hi'.2]; simp [hi'.1]
theorem Sl.take {w : World} {a : Option Addr} {n cap : Nat} {l : List Int} (h : Sl w a n cap l) (k : Nat) (hk : k ≤ n) : Sl w a k cap (l.take k) :=
  ⟨by have := h.len; simp; omega, Nat.le_trans hk h.le, h.max, h.nil, B8_take h.b8 k, h.row.take k⟩
/-- A block that is there. -/
def There (w : World) (a : Option Addr) : Prop := ∀ x, a = some x → x.block < w.heap.size
theorem Row.below {w w' : World} {a : Option Addr} {l : List Int} (h : Row w a l) (hb : Below w.heap.size w w') : Row w' a l := by
  rcases h with rfl | ⟨b, o, rfl, hc⟩
  · exact .inl rfl
  · refine .inr ⟨b, o, rfl, fun i hi => ?_⟩
    have hi' := hc i hi
    have hlt : b < w.heap.size := World.block_lt_of_cell? w _ hi'
    rw [hb.cell (p := ⟨b, o + i, none⟩) hlt]; exact hi'
theorem Sl.below {w w' : World} {a : Option Addr} {n cap : Nat} {l : List Int} (h : Sl w a n cap l) (hb : Below w.heap.size w w') : Sl w' a n cap l :=
  ⟨h.len, h.le, h.max, h.nil, h.b8, h.row.below hb⟩
theorem wf_u8 {n : Int} (h : (Lit.int .u8 n).wf = true) : 0 ≤ n ∧ n < 256 := by
  simp [Lit.wf, IntKind.min, IntKind.max, IntKind.signed, IntKind.bits] at h; omega
/-- A slice of bytes that came in. -/
theorem sl_of {w : World} {a : Option Addr} {len cap : Nat} {zs : List Int}
    (h : (a = none ∧ len = 0 ∧ cap = 0 ∧ zs = []) ∨ ∃ x, a = some x ∧ len ≤ cap ∧ cap ≤ maxLen ∧ zs.length = cap ∧ (∀ i, i < zs.length → w.cell? (x.add i) = some (.int .u8 (zs.getD i 0))) ∧ ∀ n ∈ zs, (Lit.int .u8 n).wf = true) :
    Sl w a len cap (zs.take len) := by
  rcases h with ⟨rfl, rfl, rfl, rfl⟩ | ⟨x, rfl, hl, hm, hz, hcell, hwz⟩
  · exact ⟨rfl, Nat.le_refl _, Nat.zero_le _, fun _ => rfl, fun x hx => (by simp at hx), Or.inl rfl⟩
  · refine ⟨by simp; omega, hl, hm, fun h => (by cases h), fun n hn => wf_u8 (hwz n (List.mem_of_mem_take hn)), ?_⟩
    by_cases h0 : len = 0
    · subst h0; exact Or.inl (by simp)
    · obtain ⟨b, off, spot⟩ := x
      have hc := hcell 0 (by omega)
      have hspot : spot = none := by simpa [Addr.add] using World.cell?_spot hc
      subst hspot
      refine Or.inr ⟨b, off, rfl, fun i hi => ?_⟩
      have hi' : i < len := by simp at hi; omega
      have := hcell i (by omega)
      rw [Addr.add_lit] at this
      rw [this]; simp [hi', List.getD]
theorem Try.info5 : (Try.prog.info? 5).map (fun i => (i.zero, i.size, i.bytes)) = some (some (.int .u8 0), 1, 1) := by kernel_rfl

theorem addDigit_any (s d : Int) (w : World) (hs0 : 0 ≤ s) (hs1 : s < 65536) :
    Calls Try.prog 84 #[.int .u16 s, .int .u16 d] w fun e w' => e = .returned (.int .u16 (stepI s d)) ∧ w' = w := by
  go_enter Try.func84, Try.ntmps84
  go_wp2
  · go_ret
    exact ⟨ret_int (stepI_t (by assumption)).symm, rfl⟩
  · go_ret
    exact ⟨ret_int (stepI_f (by assumption)).symm, rfl⟩

set_option maxHeartbeats 400000 in
theorem addByte_any (s x : Int) (w : World) (hs0 : 0 ≤ s) (hs1 : s < 65536) (hx0 : 0 ≤ x) (hx1 : x < 256) :
    Calls Try.prog 82 #[.int .u16 s, .int .u8 x] w fun e w' => e = .returned (.int .u16 (byteI s x)) ∧ w' = w := by
  go_enter Try.func82, Try.ntmps82
  go_wp2
  go_loop [0, 7] (fun r i => ∃ k : Nat, k ≤ 8 ∧ i = .int .i64 k ∧ r = .int .u16 (goI s x k)) (fun _ i => 8 - (intOf i).toNat)
  case atStart => exact ⟨0, by omega, rfl, rfl⟩
  case round =>
    obtain ⟨k, hk, rfl, rfl⟩ := hrel
    obtain ⟨b0, b1⟩ := goI_bd s x k hk hs0 hs1 hx0 hx1
    by_cases hlt : k < 8
    · have HS : Hid (goI s x (k + 1) = stepI (goI s x k) (digI x k)) := goI_succ s x k
      go_wp2_with (go_at_call 84; refine (addDigit_any _ _ _ b0 b1).mono ?_; rintro e w' ⟨rfl, rfl⟩)
      go_round
      case rel => exact ⟨k + 1, by omega, by go_num, by rw [HS.out]; rfl⟩
      case measure => simp [intOf]; omega
    · obtain rfl : k = 8 := by omega
      go_wp2
      go_ret
      exact ⟨rfl, rfl⟩

set_option maxHeartbeats 400000 in
theorem sum_any (a : Option Addr) (l : List Int) (n cap : Nat) (w : World) (hsl : Sl w a n cap l) :
    Calls Try.prog 80 #[.slice a n cap] w fun e w' => e = .returned (.int .u16 (sumI l)) ∧ w = w' := by
  obtain ⟨hn, hle, hmx, _, h8, hr⟩ := hsl
  have hm : n ≤ maxLen := Nat.le_trans hle hmx
  unfold maxLen at hm
  clear hmx hle
  rcases hr with rfl | ⟨b, o, rfl, hc⟩
  · obtain rfl : n = 0 := by simpa using hn.symm
    go_enter Try.func80, Try.ntmps80
    go_wp2
    refine wp_loop_rounds 1 ?_
    rw [rounds_succ]
    go_wp2
    go_ret
    exact ⟨rfl, rfl⟩
  · subst hn
    go_enter Try.func80, Try.ntmps80
    go_wp2
    go_loop [3, 8] (fun r i => ∃ k : Nat, k ≤ l.length ∧ i = .int .i64 k ∧ r = .int .u16 (sumI (l.take k))) (fun _ i => l.length - (intOf i).toNat)
    case atStart => exact ⟨0, by omega, rfl, rfl⟩
    case round =>
      obtain ⟨k, hk, rfl, rfl⟩ := hrel
      obtain ⟨b0, b1⟩ := sumI_bd _ (B8_take h8 k)
      by_cases hlt : k < l.length
      · have HS : Hid (sumI (l.take (k + 1)) = byteI (sumI (l.take k)) (l[k]?.getD 0)) := sumI_take l k hlt
        have hck := hc k hlt
        have HG : Hid (0 ≤ l[k]?.getD 0 ∧ l[k]?.getD 0 < 256) := B8_get h8 k
        clear hc
        generalize l[k]?.getD 0 = x at *
        go_wp2_with (go_at_call 82; refine (addByte_any _ _ _ b0 b1 HG.out.1 HG.out.2).mono ?_; rintro e w' ⟨rfl, rfl⟩)
        go_round
        case rel => exact ⟨k + 1, by omega, by go_num, by rw [HS.out]⟩
        case measure => simp [intOf]; omega
      · go_wp2
        go_ret
        exact ⟨ret_int (by rw [List.take_of_length_le (by omega)]), rfl⟩

theorem take_same {l m : List Int} {k : Nat} (h : l.take k = m.take k) (hx : l[k]?.getD 0 = m[k]?.getD 0) (h1 : k < l.length) (h2 : k < m.length) : l.take (k + 1) = m.take (k + 1) := by
  rw [List.take_succ_eq_append_getElem h1, List.take_succ_eq_append_getElem h2, h]
  simp [h1, h2] at hx
  rw [hx]
end Go.Proofs.Ytjdbjmfkheffdaa.B
end
section
namespace Go.Proofs.Ytjdbjmfkheffdaa.B
open Go.RowKit
set_option linter.unusedVariables false

def sealI (l : List Int) : List Int := l ++ [sumI l / 256, sumI l % 256]

theorem sealI_b8 {l : List Int} (h : B8 l) : B8 (sealI l) := by
  refine B8_append h ?_
  have := sumI_bd l h
  intro y hy
  simp at hy
  rcases hy with rfl | rfl <;> omega
theorem cell_two (w : World) (x y : Int) : ∀ j u, (cells [x, y])[j]? = some u → (w.alloc (.cells #[.int .u8 x, .int .u8 y] 5)).cell? ((⟨w.heap.size, 0, none⟩ : Addr).add j) = some u := by
  intro j u hu
  obtain ⟨hj, rfl⟩ := cells_get hu
  rw [Addr.add_lit, Nat.zero_add, cell_of_row _ _ _ _ 5 (0, 0) (heap_alloc_new w _)]
  simp at hj
  match j, hj with
  | 0, _ | 1, _ => rfl

theorem Row.cellsAt' {w : World} {a : Option Addr} {l : List Int} (h : Row w a l) : ∀ ad, a = some ad → ∀ j u, (cells l)[j]? = some u → w.cell? (ad.add j) = some u := by
  intro ad e; subst e; exact h.cellsAt
theorem Sl.none0 {w : World} {a : Option Addr} {n cap : Nat} {l : List Int} (h : Sl w a n cap l) : a = none → n = 0 ∧ cap = 0 := fun e => ⟨by have := h.nil e; have := h.le; omega, h.nil e⟩
theorem own_block {w : World} {base g n cap : Nat} {xs : List Value} (h : w.ownsRow base 5 1 (.slice (some ⟨g, 0, none⟩) n cap) n xs) : ∃ cur : List Value, w.heap[g]? = some (.cells cur.toArray 5 (0, 0)) ∧ cur.length = cap := by
  rcases h.2 with ⟨h1, _⟩ | ⟨g', cap', cur, h1, _, hg, _, _, hsz, _⟩
  · cases h1
  · simp at h1
    obtain ⟨rfl, rfl⟩ := h1
    exact ⟨cur.toList, by simpa using hg, by simpa using hsz⟩
theorem own_full {w : World} {g n : Nat} {l : List Int} {cur : List Value} (h : w.heap[g]? = some (.cells (splice cur 0 (cells l)).toArray 5 (0, 0))) (hc : cur.length = n) (hl : l.length = n) (hm : n ≤ maxLen) :
    w.ownsRow g 5 1 (.slice (some ⟨g, 0, none⟩) n n) l.length (cells l) := by
  have e : splice cur 0 (cells l) = cells l := by
    unfold splice
    rw [List.take_zero, List.nil_append, Nat.zero_add, List.drop_eq_nil_of_le (by simp [cells, hl, hc]), List.append_nil]
  rw [e] at h
  subst hl
  exact ⟨by simp [cells], Or.inr ⟨g, l.length, (cells l).toArray, rfl, Nat.le_refl _, h, Nat.le_refl _, hm, by simp [cells], by rw [Nat.mul_one]; exact List.take_of_length_le (by simp [cells])⟩⟩
theorem row_pos {w : World} {a : Option Addr} {l : List Int} (h : Row w a l) (h0 : 0 < (cells l).length) : ∃ ad, a = some ad ∧ ∀ j v, (cells l)[j]? = some v → w.cell? (ad.add j) = some v := by
  have h' := h
  rcases h' with rfl | ⟨b, o, rfl, hc⟩
  · simp [cells] at h0
  · exact ⟨_, rfl, h.cellsAt⟩
theorem below_new {w w' : World} (h : w.grownBy w' none) : Below w.heap.size w w' := (Below.refl _ _).grown h (Nat.le_refl _) (by intro k hk; cases hk)

set_option maxHeartbeats 400000 in
theorem seal_any (a : Option Addr) (l : List Int) (n cap : Nat) (w : World) (hsl : Sl w a n cap l) (hn : n ≤ 140737488351300) :
    Calls Try.prog 71 #[.slice a n cap] w fun e w' => ∃ v, e = .returned v ∧ Own w' w.heap.size v (sealI l) ∧ Below w.heap.size w w' := by
  obtain ⟨i0, hi, hz0, hz1, hz2⟩ := info_parts Try.info5
  obtain ⟨s0, s1⟩ := sumI_bd l hsl.b8
  have hl := hsl.len
  go_enter Try.func71, Try.ntmps71
  go_wp2_with (first
    | (go_at_call 80; refine (sum_any a l n cap _ hsl).mono ?_; rintro e w1 ⟨rfl, rfl⟩)
    | (at_make; refine wpList_make_own _ rfl _ _ 86 rfl w.heap.size 5 i0 (.int .u8 0) 1 Try.underlying86 hi hz0 hz1 _ _ _ (n + 2) rfl rfl (by omega) (by rw [hz2]; omega) (by unfold maxLen; omega) (Nat.le_refl _) ?_; intro w1 hown1 hg1)
    | (at_builtin; refine wpList_append_fits_any _ rfl (.tmp 11) (.tmp 12) 86 rfl w.heap.size 5 i0 1 Try.underlying86 hi hz1 w.heap.size 0 (n + 2) [] rfl hown1 a n cap (cells l) rfl (by simp [cells, hl]) hsl.none0 (hsl.row.below (below_new hg1)).cellsAt' (cells_one l) (by omega) ?_; intro w2 hown2 hg2; simp only [Nat.zero_add, List.nil_append] at hown2)
    | (at_builtin; refine wpList_append_fits _ rfl (.tmp 14) (.tmp 20) 86 rfl w.heap.size 5 i0 1 Try.underlying86 hi hz1 w.heap.size n (n + 2) (cells l) rfl (hown2.alloc _) ⟨_, 0, none⟩ 2 2 (cells [_, _]) rfl rfl (cell_two _ _ _) (cells_one _) (by omega) ?_; intro w3 hown3 hg3))
  go_ret
  have z1 := hg1.size
  have z2 := hg2.size
  refine ⟨_, rfl, ⟨by simpa [sealI, cells, hl] using hown3, sealI_b8 hsl.b8⟩, ?_⟩
  exact ((((below_new hg1).grown hg2 z1 (by intro k hk; simp at hk; omega)).alloc (by omega) _).grown hg3 (by simp; omega) (by intro k hk; simp at hk; omega))

theorem copyOf_any (a : Option Addr) (l : List Int) (n cap : Nat) (w : World) (hsl : Sl w a n cap l) (hn : n ≤ 140737488351300) :
    Calls Try.prog 75 #[.slice a n cap] w fun e w' => ∃ v, e = .returned v ∧ Own w' w.heap.size v l ∧ Below w.heap.size w w' := by
  obtain ⟨i0, hi, hz0, hz1, hz2⟩ := info_parts Try.info5
  have hl := hsl.len
  go_enter Try.func75, Try.ntmps75
  go_wp2_with (first
    | (at_make; refine wpList_make_full _ rfl _ _ 86 rfl w.heap.size 5 i0 (.int .u8 0) 1 Try.underlying86 hi hz0 hz1 _ _ _ _ n rfl rfl (by omega) (by omega) (by rw [hz2]; omega) (by unfold maxLen; omega) (Nat.le_refl _) ?_; intro w1 hown1 hg1; obtain ⟨cur, hcur, hcl⟩ := own_block hown1)
    | (refine wpList_copy_splice rfl (.tmp 7) (.tmp 8) 86 86 rfl 5 Try.underlying86 (by rw [hi]; simp [hz1]) _ _ _ _ _ _ rfl rfl w.heap.size 0 cur 5 hcur (cells l) (by simp [cells, hl]) (fun h => ⟨rfl, row_pos (hsl.row.below (below_new hg1)) h⟩) (by simp [cells, hl, hcl]) (cells_one l) w.heap.size w (below_new hg1) (Nat.le_refl _) ?_; intro w2 hg2 hb2))
  go_ret
  exact ⟨_, rfl, ⟨own_full hg2.out hcl hl (by unfold maxLen; omega), hsl.b8⟩, hb2⟩

/-- What is opened. -/
def openI (l : List Int) : Option (List Int) :=
  if l.length < 2 then none else if sumI (l.take (l.length - 2)) = l[l.length - 2]?.getD 0 * 256 + l[l.length - 1]?.getD 0 then some (l.take (l.length - 2)) else none
theorem openI_short {l : List Int} (h : l.length < 2) : openI l = none := if_pos h
theorem openI_yes {l : List Int} {m : Nat} (hl : l.length = m + 2) (h : sumI (l.take m) = l[m]?.getD 0 * 256 + l[m + 1]?.getD 0) : openI l = some (l.take m) := by
  unfold openI
  rw [if_neg (by omega), hl, show m + 2 - 2 = m by omega, show m + 2 - 1 = m + 1 by omega, if_pos h]
theorem openI_no {l : List Int} {m : Nat} (hl : l.length = m + 2) (h : ¬ sumI (l.take m) = l[m]?.getD 0 * 256 + l[m + 1]?.getD 0) : openI l = none := by
  unfold openI
  rw [if_neg (by omega), hl, show m + 2 - 2 = m by omega, show m + 2 - 1 = m + 1 by omega, if_neg h]
theorem or_join (x y : Int) (hx0 : 0 ≤ x) (hx1 : x < 256) (hy0 : 0 ≤ y) (hy1 : y < 256) : bits .or .u16 (x * 256) y = x * 256 + y := by
  rw [u16_or _ _ (by omega) (by omega) (by omega) (by omega), nat_join 8 _ _ (by omega) (by omega)]
  omega
theorem own_nil (w : World) (base : Nat) : Own w base (.slice none 0 0) [] := ⟨World.ownsRow_nil _ _ _ _, fun x hx => by cases hx⟩
theorem ret_two {v : Value} {a b : Bool} (h : a = b) : Ending.returned (.tuple #[v, .bool a]) = .returned (.tuple #[v, .bool b]) := by rw [h]
theorem below_dn (w : World) (k : Nat) : Below w.heap.size w (w.drewN k) := ⟨rfl, rfl, rfl, Nat.le_refl _, fun _ _ => rfl⟩

set_option maxHeartbeats 1000000 in
theorem open_any (a : Option Addr) (l : List Int) (n cap : Nat) (w : World) (hsl : Sl w a n cap l) (hn : n ≤ 140737488351300) :
    Calls Try.prog 72 #[.slice a n cap] w fun e w' => ∃ v, e = .returned (.tuple #[v, .bool (openI l).isSome]) ∧ Own w' w.heap.size v ((openI l).getD []) ∧ Below w.heap.size w w' := by
  have hl := hsl.len
  by_cases h2 : n < 2
  · have HO : Hid (openI l = none) := openI_short (by omega)
    go_enter Try.func72, Try.ntmps72
    go_wp2
    go_ret2
    exact ⟨_, ret_two (by rw [HO.out]; rfl), by rw [HO.out]; exact own_nil _ _, Below.refl _ _⟩
  · rcases hsl.row with rfl | ⟨b, o, rfl, hc⟩
    · simp at hl; omega
    obtain ⟨m, rfl⟩ : ∃ m, n = m + 2 := ⟨n - 2, by omega⟩
    have c0 := hc m (by omega)
    have c1 := hc (m + 1) (by omega)
    have q0 : (0 : Int) ≤ (m : Int) := by omega
    obtain ⟨x0, x1⟩ := B8_get hsl.b8 m
    obtain ⟨y0, y1⟩ := B8_get hsl.b8 (m + 1)
    have HY : Hid (sumI (l.take m) = l[m]?.getD 0 * 256 + l[m + 1]?.getD 0 → openI l = some (l.take m)) := openI_yes hl
    have HN : Hid (¬ sumI (l.take m) = l[m]?.getD 0 * 256 + l[m + 1]?.getD 0 → openI l = none) := openI_no hl
    have hle := hsl.le
    clear hc h2
    generalize l[m]?.getD 0 = x at *
    generalize l[m + 1]?.getD 0 = y at *
    have hor := or_join x y x0 x1 y0 y1
    have hst := hsl.take m (by omega)
    by_cases hs : sumI (l.take m) = x * 256 + y
    · have hs' : (sumI (l.take m) != x * 256 + y) = false := by simp [hs]
      have HO : Hid (openI l = some (l.take m)) := HY.out hs
      clear HY HN hs
      go_enter Try.func72, Try.ntmps72
      go_wp2_with fail
      go_quiet (fail)
      go_wp2_with (first
        | (go_at_call 80; refine (sum_any _ _ m cap _ (hst.below (below_dn _ _))).mono ?_; rintro e w1 ⟨rfl, rfl⟩)
        | (go_at_call 75; refine (copyOf_any _ _ m cap _ (hst.below (below_dn _ _)) (by omega)).mono ?_; rintro e w2 ⟨v, rfl, hown, hb⟩))
      go_ret2
      exact ⟨_, ret_two (by rw [HO.out]; rfl), by rw [HO.out]; exact hown, (below_dn w _).trans hb⟩
    · have hs' : (sumI (l.take m) != x * 256 + y) = true := by simpa using hs
      have HO : Hid (openI l = none) := HN.out hs
      clear HY HN hs
      go_enter Try.func72, Try.ntmps72
      go_wp2_with fail
      go_quiet (fail)
      go_wp2_with (first
        | (go_at_call 80; refine (sum_any _ _ m cap _ (hst.below (below_dn _ _))).mono ?_; rintro e w1 ⟨rfl, rfl⟩))
      go_ret2
      exact ⟨_, ret_two (by rw [HO.out]; rfl), by rw [HO.out]; exact own_nil _ _, below_dn w _⟩
end Go.Proofs.Ytjdbjmfkheffdaa.B
end
section
namespace Go.Proofs.Ytjdbjmfkheffdaa.B
open Go.RowKit
set_option linter.unusedVariables false

/-- The byte x, turned at the place t of its list by the digit i of the mask: as the walk spells it. -/
def turnI (x mask : Int) (t i : Nat) : Int := bits .xor .u8 x (IntKind.u8.wrap (bits .and .u8 (mask / 2 ^ (15 - i) % 256) 1 * 2 ^ (7 - t % 8)))
def spStep (l : List Int) (bit mask : Int) (i : Nat) : List Int :=
  if 0 ≤ bit + i ∧ bit + i < 8 * l.length then l.set ((bit + i).toNat / 8) (turnI (l[(bit + i).toNat / 8]?.getD 0) mask (bit + i).toNat i) else l
def spN (l : List Int) (bit mask : Int) (k : Nat) : List Int := (List.range k).foldl (fun l i => spStep l bit mask i) l
def spoilI (l : List Int) (bit mask : Int) : List Int := spN l bit mask 16

theorem spN_zero (l : List Int) (bit mask : Int) : spN l bit mask 0 = l := rfl
theorem spN_succ (l : List Int) (bit mask : Int) (k : Nat) : spN l bit mask (k + 1) = spStep (spN l bit mask k) bit mask k := by
  unfold spN; rw [List.range_succ, List.foldl_append]; rfl
theorem spStep_len (l : List Int) (bit mask : Int) (i : Nat) : (spStep l bit mask i).length = l.length := by
  unfold spStep; split <;> simp
theorem spN_len (l : List Int) (bit mask : Int) : ∀ k, (spN l bit mask k).length = l.length
  | 0 => rfl
  | k + 1 => by rw [spN_succ, spStep_len, spN_len l bit mask k]
theorem spStep_in {l : List Int} {bit mask : Int} {i t : Nat} (h : bit + i = t) (ht : t < 8 * l.length) : spStep l bit mask i = l.set (t / 8) (turnI (l[t / 8]?.getD 0) mask t i) := by
  unfold spStep; rw [if_pos (by omega)]; simp [h]
theorem spStep_out {l : List Int} {bit mask : Int} {i : Nat} (h : bit + i < 0 ∨ 8 * l.length ≤ bit + i) : spStep l bit mask i = l := by
  unfold spStep; rw [if_neg (by omega)]
theorem spN_out {l : List Int} {bit mask : Int} (h : bit ≤ -16 ∨ 8 * l.length ≤ bit) : ∀ k, k ≤ 16 → spN l bit mask k = l
  | 0, _ => rfl
  | k + 1, hk => by
    rw [spN_succ, spN_out h k (by omega), spStep_out (by omega)]
theorem xor8_bd {a b : Int} (ha0 : 0 ≤ a) (ha1 : a < 256) (hb0 : 0 ≤ b) (hb1 : b < 256) : 0 ≤ bits .xor .u8 a b ∧ bits .xor .u8 a b < 256 := by
  rw [u8_xor a b ha0 ha1 hb0 hb1]
  have : a.toNat ^^^ b.toNat < 2 ^ 8 := Nat.xor_lt_two_pow (by omega) (by omega)
  omega
theorem turnI_bd {x : Int} (hx : 0 ≤ x ∧ x < 256) (mask : Int) (t i : Nat) : 0 ≤ turnI x mask t i ∧ turnI x mask t i < 256 := by
  have h : ∀ n : Int, 0 ≤ IntKind.u8.wrap n ∧ IntKind.u8.wrap n < 256 := fun n => by rw [IntKind.wrap_u8']; omega
  exact xor8_bd hx.1 hx.2 (h _).1 (h _).2
theorem spStep_b8 {l : List Int} (h : B8 l) (bit mask : Int) (i : Nat) : B8 (spStep l bit mask i) := by
  unfold spStep
  split
  · intro y hy
    rcases List.mem_or_eq_of_mem_set hy with h' | rfl
    · exact h y h'
    · exact turnI_bd (B8_get h _) _ _ _
  · exact h
theorem spN_b8 {l : List Int} (h : B8 l) (bit mask : Int) : ∀ k, B8 (spN l bit mask k)
  | 0 => h
  | k + 1 => by rw [spN_succ]; exact spStep_b8 (spN_b8 h bit mask k) _ _ _
theorem cells_set (l : List Int) (j : Nat) (x : Int) : (cells l).set j (.int .u8 x) = cells (l.set j x) := by simp [cells, List.map_set]

theorem own_some {w : World} {base n : Nat} {v : Value} {l : List Int} (h : Own w base v l) (hn : l.length = n) (h0 : 0 < n) : ∃ g cap, v = .slice (some ⟨g, 0, none⟩) n cap ∧ base ≤ g ∧ w.ownsRow base 5 1 (.slice (some ⟨g, 0, none⟩) n cap) n (cells l) := by
  subst hn
  have hh := h.1
  rcases h.1.2 with ⟨_, h1⟩ | ⟨g, cap, cur, rfl, hb, _⟩
  · omega
  · exact ⟨g, cap, rfl, hb, hh⟩

theorem Row.some {w : World} {a : Option Addr} {l : List Int} (h : Row w a l) (h0 : 0 < l.length) : ∃ b o, a = Option.some ⟨b, o, none⟩ ∧ ∀ i, i < l.length → w.cell? ⟨b, o + i, none⟩ = Option.some (.int .u8 (l[i]?.getD 0)) := by
  rcases h with rfl | h
  · simp at h0
  · exact h
theorem wrap_small (n : Int) (h0 : -4611686018427387904 ≤ n) (h1 : n ≤ 4611686018427387904) : IntKind.i64.wrap n = n := by
  rw [IntKind.wrap_i64]; omega

end Go.Proofs.Ytjdbjmfkheffdaa.B
end
section
namespace Go.Proofs.Ytjdbjmfkheffdaa.B
open Go.RowKit

def digAt (l : List Int) (k : Nat) : Bool := (l[k / 8]?.getD 0).toNat.testBit (7 - k % 8)
def mdig (mask : Int) (i : Nat) : Bool := mask.toNat.testBit (15 - i)

theorem turnI_bit {x mask : Int} (hx0 : 0 ≤ x) (hx1 : x < 256) (hm0 : 0 ≤ mask) (hm1 : mask < 65536) (t i j : Nat) :
    (turnI x mask t i).toNat.testBit j = (x.toNat.testBit j ^^ (decide (j = 7 - t % 8) && mdig mask i)) := by
  obtain ⟨y, rfl⟩ := Int.eq_ofNat_of_zero_le hx0
  obtain ⟨m, rfl⟩ := Int.eq_ofNat_of_zero_le hm0
  have e1 : ((m : Int) / 2 ^ (15 - i) % 256) = ((m / 2 ^ (15 - i) % 256 : Nat) : Int) := by simp
  have e2 : bits .and .u8 ((m : Int) / 2 ^ (15 - i) % 256) 1 = ((m / 2 ^ (15 - i) % 2 : Nat) : Int) := by
    rw [e1, show (1 : Int) = ((1 : Nat) : Int) from rfl, u8_and_nat _ 1 (by omega) (by decide), Nat.and_one_is_mod]
    congr 1; omega
  have hb : mdig (m : Int) i = decide (m / 2 ^ (15 - i) % 2 = 1) := by
    unfold mdig; rw [Int.toNat_natCast, Nat.testBit_eq_decide_div_mod_eq]
  have hp : 2 ^ (7 - t % 8) ≤ 2 ^ 7 := Nat.pow_le_pow_right (by omega) (by omega)
  unfold turnI
  rw [e2]
  rcases Nat.mod_two_eq_zero_or_one (m / 2 ^ (15 - i)) with h | h
  · rw [h] at hb ⊢
    have z : IntKind.u8.wrap (((0 : Nat) : Int) * 2 ^ (7 - t % 8)) = ((0 : Nat) : Int) := by simp [IntKind.wrap_u8']
    rw [z, u8_xor_nat y 0 (by omega) (by decide), hb]
    simp
  · rw [h] at hb ⊢
    have z : IntKind.u8.wrap (((1 : Nat) : Int) * 2 ^ (7 - t % 8)) = ((2 ^ (7 - t % 8) : Nat) : Int) := by
      rw [IntKind.wrap_u8']
      have : ((1 : Nat) : Int) * 2 ^ (7 - t % 8) = ((2 ^ (7 - t % 8) : Nat) : Int) := by simp
      rw [this]
      generalize 2 ^ (7 - t % 8) = p at hp ⊢
      omega
    rw [z, u8_xor_nat y _ (by omega) (by omega), hb, Int.toNat_natCast, Nat.testBit_xor, Nat.testBit_two_pow]
    simp [eq_comm]

theorem spStep_dig {l : List Int} {bit mask : Int} (h8 : B8 l) (hm0 : 0 ≤ mask) (hm1 : mask < 65536) (i k : Nat) (hk : k < 8 * l.length) :
    digAt (spStep l bit mask i) k = (digAt l k ^^ (decide (bit + i = k) && mdig mask i)) := by
  by_cases h : 0 ≤ bit + i ∧ bit + i < 8 * l.length
  · obtain ⟨t, ht⟩ : ∃ t : Nat, bit + (i : Int) = (t : Int) := ⟨(bit + i).toNat, by omega⟩
    have ht' : t < 8 * l.length := by omega
    rw [spStep_in ht ht', ht]
    unfold digAt
    have hx := B8_get h8 (t / 8)
    by_cases hq : t / 8 = k / 8
    · rw [← hq, List.getElem?_set_self (by omega), Option.getD_some, turnI_bit hx.1 hx.2 hm0 hm1 _ _ _]
      congr 2
      simp; omega
    · rw [List.getElem?_set_ne hq]
      have : ¬ ((t : Int) = (k : Int)) := by omega
      simp [this]
  · rw [spStep_out (by omega)]
    have : ¬ (bit + (i : Int) = (k : Int)) := by omega
    simp [this]
theorem spN_dig {l : List Int} {bit mask : Int} (h8 : B8 l) (hm0 : 0 ≤ mask) (hm1 : mask < 65536) (k : Nat) (hk : k < 8 * l.length) :
    ∀ n, n ≤ 16 → digAt (spN l bit mask n) k = (digAt l k ^^ (decide (bit ≤ k ∧ k < bit + n) && mdig mask (k - bit).toNat))
  | 0, _ => by
    have : ¬ (bit ≤ (k : Int) ∧ (k : Int) < bit + ((0 : Nat) : Int)) := by omega
    simp only [this, spN_zero, decide_false, Bool.false_and, Bool.xor_false]
  | n + 1, hn => by
    rw [spN_succ, spStep_dig (spN_b8 h8 bit mask n) hm0 hm1 n k (by rw [spN_len]; exact hk), spN_dig h8 hm0 hm1 k hk n (by omega)]
    by_cases h : bit + (n : Int) = (k : Int)
    · have a1 : ¬ (bit ≤ (k : Int) ∧ (k : Int) < bit + (n : Int)) := by omega
      have a2 : bit ≤ (k : Int) ∧ (k : Int) < bit + ((n + 1 : Nat) : Int) := by omega
      have a3 : ((k : Int) - bit).toNat = n := by omega
      rw [decide_eq_false a1, decide_eq_true a2, decide_eq_true h, a3]
      simp
    · have a1 : (bit ≤ (k : Int) ∧ (k : Int) < bit + ((n + 1 : Nat) : Int)) ↔ (bit ≤ (k : Int) ∧ (k : Int) < bit + (n : Int)) := by omega
      simp only [h, a1, decide_false, Bool.false_and, Bool.xor_false]
/-- Is the digit k of the list turned? -/
def hit (bit mask : Int) (k : Nat) : Bool := decide (bit ≤ k ∧ k < bit + 16) && mdig mask (k - bit).toNat
theorem spoilI_dig {l : List Int} {bit mask : Int} (h8 : B8 l) (hm0 : 0 ≤ mask) (hm1 : mask < 65536) (k : Nat) (hk : k < 8 * l.length) :
    digAt (spoilI l bit mask) k = (digAt l k ^^ hit bit mask k) := spN_dig h8 hm0 hm1 k hk 16 (by omega)
theorem spoilI_len (l : List Int) (bit mask : Int) : (spoilI l bit mask).length = l.length := spN_len ..
theorem spoilI_b8 {l : List Int} (h : B8 l) (bit mask : Int) : B8 (spoilI l bit mask) := spN_b8 h bit mask 16

theorem byte_ext {x y : Int} (hx : 0 ≤ x ∧ x < 256) (hy : 0 ≤ y ∧ y < 256) (h : ∀ j, j < 8 → x.toNat.testBit j = y.toNat.testBit j) : x = y := by
  have : x.toNat = y.toNat := by
    apply Nat.eq_of_testBit_eq
    intro j
    by_cases hj : j < 8
    · exact h j hj
    · have p : 2 ^ 8 ≤ 2 ^ j := Nat.pow_le_pow_right (by omega) (by omega)
      rw [Nat.testBit_lt_two_pow (by omega), Nat.testBit_lt_two_pow (by omega)]
  omega
theorem digs_ext {l m : List Int} (hl : B8 l) (hm : B8 m) (hlen : l.length = m.length) (h : ∀ k, k < 8 * l.length → digAt l k = digAt m k) : l = m := by
  apply List.ext_getElem? 
  intro i
  by_cases hi : i < l.length
  · have e : l[i]?.getD 0 = m[i]?.getD 0 := by
      refine byte_ext (B8_get hl i) (B8_get hm i) fun j hj => ?_
      have := h (8 * i + (7 - j)) (by omega)
      unfold digAt at this
      rw [show (8 * i + (7 - j)) / 8 = i by omega, show 7 - (8 * i + (7 - j)) % 8 = j by omega] at this
      exact this
    simp [hi, show i < m.length by omega] at e ⊢
    exact e
  · rw [List.getElem?_eq_none (by omega), List.getElem?_eq_none (by omega)]

/-! ### sums over digits by their places -/
theorem digitsD_at (x : BitVec 8) (k : Nat) (hk : k < 8) : x.getMsbD k = ((x.toNat : Int)).toNat.testBit (7 - k) := by
  rw [BitVec.getMsbD_eq_getLsbD, BitVec.getLsbD, Int.toNat_natCast]; simp [hk]
theorem digits_eq : ∀ m : List (BitVec 8), digits m = (List.range (8 * (ints m).length)).map (digAt (ints m))
  | [] => rfl
  | x :: m => by
    have e : 8 * (ints (x :: m)).length = 8 + 8 * (ints m).length := by simp [ints]; omega
    rw [e, List.range_add, List.map_append, List.map_map]
    show digitsD x ++ digits m = _
    rw [digits_eq m]
    have p1 : digitsD x = (List.range 8).map (digAt (ints (x :: m))) := by
      unfold digitsD
      refine List.map_congr_left fun k hk => ?_
      have hk8 : k < 8 := List.mem_range.1 hk
      rw [digitsD_at x k hk8]
      unfold digAt
      rw [show k / 8 = 0 by omega, show k % 8 = k by omega]; rfl
    have p2 : (List.range (8 * (ints m).length)).map (digAt (ints m)) = (List.range (8 * (ints m).length)).map (digAt (ints (x :: m)) ∘ fun x => 8 + x) := by
      refine List.map_congr_left fun k _ => ?_
      show _ = digAt (ints (x :: m)) (8 + k)
      unfold digAt
      rw [show (8 + k) / 8 = k / 8 + 1 by omega, show (8 + k) % 8 = k % 8 by omega]; rfl
    rw [p1, p2]
theorem sum_digs {l : List Int} (h : B8 l) : sumI l = ((runD 65535#16 ((List.range (8 * l.length)).map (digAt l))).toNat : Int) := by
  obtain ⟨m, rfl⟩ := ints_of l h
  rw [sumI_eq, digits_eq]
theorem runD_lin' (f g : Nat → Bool) (a b : BitVec 16) : ∀ n, runD (a ^^^ b) ((List.range n).map fun k => f k ^^ g k) = runD a ((List.range n).map f) ^^^ runD b ((List.range n).map g)
  | 0 => rfl
  | n + 1 => by
    simp only [List.range_succ, List.map_append, runD_append]
    rw [runD_lin' f g a b n]
    exact stepD_lin ..

/-! ### bursts -/
theorem run16_list (W : List Bool) (hW : W.length = 16) (h : runD 0#16 W = 0#16) : ∀ b ∈ W, b = false := by
  have e : digits16 ((BitVec.ofBoolListBE W).cast hW) = W := by
    unfold digits16
    apply List.ext_getElem
    · simp [hW]
    · intro i h1 h2
      simp [h2]
  have z := (run16 0#16 ((BitVec.ofBoolListBE W).cast hW)).1 (by rw [e]; exact h)
  rw [← z] at e
  intro b hb
  rw [← e] at hb
  simp [digits16] at hb
  exact (And.symm hb).1
theorem map_false {g : Nat → Bool} {n : Nat} (h : ∀ j, j < n → g j = false) : (List.range n).map g = List.replicate n false := by
  apply List.ext_getElem
  · simp
  · intro i h1 h2
    simp at h1
    simp [h i h1]
theorem burst (g : Nat → Bool) (b M : Nat) (hb : b + 16 ≤ M) (h0 : ∀ j, j < M → g j = true → b ≤ j ∧ j < b + 16) (h : runD 0#16 ((List.range M).map g) = 0#16) : ∀ j, j < M → g j = false := by
  obtain ⟨c, rfl⟩ : ∃ c, M = b + 16 + c := ⟨M - (b + 16), by omega⟩
  rw [List.range_add, List.map_append, List.range_add, List.map_append, List.map_map, List.map_map, runD_append, runD_append] at h
  have n1 : (List.range b).map g = List.replicate b false := map_false fun j hj => by
    cases hg : g j with
    | false => rfl
    | true => have := h0 j (by omega) hg; omega
  have n2 : (List.range c).map (g ∘ fun x => b + 16 + x) = List.replicate c false := map_false fun j hj => by
    show g (b + 16 + j) = false
    cases hg : g (b + 16 + j) with
    | false => rfl
    | true => have := h0 (b + 16 + j) (by omega) hg; omega
  rw [n1, n2, runD_falses0] at h
  have h2 := runD_falses _ _ h
  have h3 := run16_list _ (by simp) h2
  intro j hj
  cases hg : g j with
  | false => rfl
  | true =>
    have hw := h0 j hj hg
    have := h3 (g j) (List.mem_map.2 ⟨j - b, List.mem_range.2 (by omega), by show g (b + (j - b)) = g j; congr 1; omega⟩)
    rw [hg] at this; exact this
theorem burst_in (e : Nat → Bool) (N : Nat) (bit : Int) (h0 : ∀ k : Nat, k < N → e k = true → bit ≤ k ∧ k < bit + 16) (h : runD 0#16 ((List.range N).map e) = 0#16) : ∀ k, k < N → e k = false := by
  by_cases hb : bit ≤ -16 ∨ N ≤ bit
  · intro k hk
    cases he : e k with
    | false => rfl
    | true => have := h0 k hk he; omega
  obtain ⟨b, hb'⟩ : ∃ b : Nat, bit + 16 = (b : Int) := ⟨(bit + 16).toNat, by omega⟩
  let g : Nat → Bool := fun j => if 16 ≤ j ∧ j < 16 + N then e (j - 16) else false
  have hg : ∀ j, j < 16 + N + 16 → g j = false := by
    refine burst g b (16 + N + 16) (by omega) ?_ ?_
    · intro j hj hgj
      by_cases hj2 : 16 ≤ j ∧ j < 16 + N
      · have : e (j - 16) = true := by simpa [g, hj2] using hgj
        have := h0 (j - 16) (by omega) this
        omega
      · simp [g, hj2] at hgj
    · rw [List.range_add, List.map_append, List.range_add, List.map_append, List.map_map, List.map_map, runD_append, runD_append]
      rw [map_false (n := 16) (g := g) fun j hj => if_neg (by omega), runD_falses0]
      have e1 : (List.range N).map (g ∘ fun x => 16 + x) = (List.range N).map e := List.map_congr_left fun k hk => by
        have : k < N := List.mem_range.1 hk
        show (if 16 ≤ 16 + k ∧ 16 + k < 16 + N then e (16 + k - 16) else false) = e k
        rw [if_pos (by omega), show 16 + k - 16 = k by omega]
      rw [e1, h, map_false (n := 16) fun j hj => by show (if 16 ≤ 16 + N + j ∧ 16 + N + j < 16 + N then e (16 + N + j - 16) else false) = false; exact if_neg (by omega), runD_falses0]
  intro k hk
  have := hg (16 + k) (by omega)
  have e2 : g (16 + k) = e k := by
    show (if 16 ≤ 16 + k ∧ 16 + k < 16 + N then e (16 + k - 16) else false) = e k
    rw [if_pos (by omega), show 16 + k - 16 = k by omega]
  rw [← e2]; exact this

/-- Bytes with the sum 0, spoilt, have it only if nothing was spoilt. -/
theorem spoil_found {l : List Int} {bit mask : Int} (h8 : B8 l) (hm0 : 0 ≤ mask) (hm1 : mask < 65536) (h : sumI l = 0) (h' : sumI (spoilI l bit mask) = 0) : spoilI l bit mask = l := by
  have q := spoilI_b8 h8 bit mask
  rw [sum_digs h8] at h
  rw [sum_digs q, spoilI_len] at h'
  have z : runD 65535#16 ((List.range (8 * l.length)).map (digAt l)) = 0#16 := BitVec.eq_of_toNat_eq (by simpa using h)
  have z' : runD 65535#16 ((List.range (8 * l.length)).map (digAt (spoilI l bit mask))) = 0#16 := BitVec.eq_of_toNat_eq (by simpa using h')
  have e : (List.range (8 * l.length)).map (digAt (spoilI l bit mask)) = (List.range (8 * l.length)).map (fun k => digAt l k ^^ hit bit mask k) :=
    List.map_congr_left fun k hk => spoilI_dig h8 hm0 hm1 k (List.mem_range.1 hk)
  have lin := runD_lin' (digAt l) (hit bit mask) 65535#16 0#16 (8 * l.length)
  rw [BitVec.xor_zero, ← e, z, z', BitVec.zero_xor] at lin
  have none := burst_in (hit bit mask) (8 * l.length) bit (fun k _ hk => by simp [hit] at hk; exact hk.1) lin.symm
  refine digs_ext q h8 (spoilI_len ..) fun k hk => ?_
  rw [spoilI_len] at hk
  rw [spoilI_dig h8 hm0 hm1 k hk, none k hk, Bool.xor_false]
theorem spoil_twice {l : List Int} {bit mask : Int} (h8 : B8 l) (hm0 : 0 ≤ mask) (hm1 : mask < 65536) : spoilI (spoilI l bit mask) bit mask = l := by
  refine digs_ext (spoilI_b8 (spoilI_b8 h8 _ _) _ _) h8 (by rw [spoilI_len, spoilI_len]) fun k hk => ?_
  rw [spoilI_len, spoilI_len] at hk
  rw [spoilI_dig (spoilI_b8 h8 _ _) hm0 hm1 k (by rw [spoilI_len]; exact hk), spoilI_dig h8 hm0 hm1 k hk, Bool.xor_assoc, Bool.xor_self, Bool.xor_false]
theorem spoil_zero {l : List Int} {bit : Int} (h8 : B8 l) : spoilI l bit 0 = l := by
  refine digs_ext (spoilI_b8 h8 _ _) h8 (by rw [spoilI_len]) fun k hk => ?_
  rw [spoilI_len] at hk
  rw [spoilI_dig h8 (by omega) (by omega) k hk]
  simp [hit, mdig]
theorem spoil_past {l : List Int} {bit mask : Int} (h : bit ≤ -16 ∨ 8 * l.length ≤ bit) : spoilI l bit mask = l := spN_out h 16 (by omega)
end Go.Proofs.Ytjdbjmfkheffdaa.B
end
section
namespace Go.Proofs.Ytjdbjmfkheffdaa.B
open Go.RowKit
set_option linter.unusedVariables false

theorem own_snoc {w : World} {base : Nat} {v : Value} {l : List Int} {x : Int} (h : w.ownsRow base 5 1 v (l.length + 1) (cells l ++ cells [x])) (h8 : B8 l) (h0 : 0 ≤ x) (h1 : x < 256) : Own w base v (l ++ [x]) := by
  refine ⟨by simpa [cells] using h, B8_append h8 ?_⟩
  intro y hy; simp at hy; subst hy; exact ⟨h0, h1⟩

theorem nextB {w0 w1 w2 : World} (h : Below w0.heap.size w0 w1) (h2 : Below w1.heap.size w1 w2) : Below w0.heap.size w0 w2 := h.trans (h2.mono h.size)

theorem openI_seal {l : List Int} (h8 : B8 l) : openI (sealI l) = some l := by
  have b := sumI_bd l h8
  have hl : (sealI l).length = l.length + 2 := by simp [sealI]
  have ht : (sealI l).take l.length = l := by simp [sealI]
  have g0 : (sealI l)[l.length]?.getD 0 = sumI l / 256 := by simp [sealI]
  have g1 : (sealI l)[l.length + 1]?.getD 0 = sumI l % 256 := by simp [sealI]
  have := openI_yes hl (by rw [ht, g0, g1]; omega)
  rw [this, ht]
theorem sum_seal {l : List Int} (h8 : B8 l) : sumI (sealI l) = 0 := by
  have b := sumI_bd l h8
  exact (sum_whole l _ _ h8 (by omega) (by omega) (by omega) (by omega)).2 (by omega)

theorem wf_u16 {n : Int} (h : (Lit.int .u16 n).wf = true) : 0 ≤ n ∧ n < 65536 := by
  simp [Lit.wf, IntKind.min, IntKind.max, IntKind.signed, IntKind.bits] at h; omega
theorem openI_sum {l : List Int} (h8 : B8 l) (h : ¬ sumI l = 0) : openI l = none := by
  by_cases h2 : l.length < 2
  · exact openI_short h2
  · obtain ⟨m, hm⟩ : ∃ m, l.length = m + 2 := ⟨l.length - 2, by omega⟩
    exact openI_no hm fun e => h ((sum_whole' hm h8).2 e)

theorem Own.alloc {w : World} {base : Nat} {v : Value} {l : List Int} (h : Own w base v l) (o : Obj) : Own (w.alloc o) base v l := ⟨h.1.alloc o, h.2⟩
theorem own_at {w : World} {base n cap : Nat} {a : Option Addr} {l : List Int} (h : Own w base (.slice a n cap) l) (hn : l.length = n) : Sl w a n cap l := by
  obtain ⟨a', cap', e, s⟩ := h.sl' hn
  simp at e
  obtain ⟨rfl, rfl⟩ := e
  exact s
theorem Sl.same {w w' : World} {a : Option Addr} {n cap : Nat} {l : List Int} (h : Sl w a n cap l) (hh : w'.heap = w.heap) : Sl w' a n cap l := by
  refine ⟨h.len, h.le, h.max, h.nil, h.b8, ?_⟩
  rcases h.row with rfl | ⟨b, o, rfl, hc⟩
  · exact Or.inl rfl
  · exact Or.inr ⟨b, o, rfl, fun i hi => by rw [← hc i hi]; exact World.cell?_of_block (by rw [hh])⟩
end Go.Proofs.Ytjdbjmfkheffdaa.B
end
section
namespace Go.Proofs.Ytjdbjmfkheffdaa
open Go.RowKit
set_option linter.unusedVariables false

def inB (a n b : Int) : Bool := decide (a ≤ n ∧ n ≤ b)
theorem inB_t {a n b : Int} (h1 : a ≤ n) (h2 : n ≤ b) : inB a n b = true := decide_eq_true ⟨h1, h2⟩
theorem inB_f {a n b : Int} (h : n < a ∨ b < n) : inB a n b = false := decide_eq_false (by omega)
theorem inB_out {a n b : Int} (h : inB a n b = true) : a ≤ n ∧ n ≤ b := of_decide_eq_true h
/-- May the packet be? -/
def Pk.right (x : Pk) : Bool := inB 1 x.k 9 && inB 0 x.f 5 && inB 0 x.t 5 && inB 0 x.i 4095 && inB 0 x.l 7 && inB (-1) x.p 5 && inB 0 x.s 2 && decide (x.z.length ≤ 4)
def Pk.err (x : Pk) : Int := if x.right = true then 0 else 1
theorem Pk.err_t {x : Pk} (h : x.right = true) : x.err = 0 := if_pos h
theorem Pk.err_f {x : Pk} (h : x.right = false) : x.err = 1 := if_neg (by rw [h]; exact Bool.false_ne_true)
structure Pk.Right (x : Pk) : Prop where
  k : 1 ≤ x.k ∧ x.k ≤ 9
  f : 0 ≤ x.f ∧ x.f ≤ 5
  t : 0 ≤ x.t ∧ x.t ≤ 5
  i : 0 ≤ x.i ∧ x.i ≤ 4095
  l : 0 ≤ x.l ∧ x.l ≤ 7
  p : -1 ≤ x.p ∧ x.p ≤ 5
  s : 0 ≤ x.s ∧ x.s ≤ 2
  z : x.z.length ≤ 4
theorem Pk.right_iff (x : Pk) : x.right = true ↔ x.Right := by
  unfold Pk.right inB
  simp only [Bool.and_eq_true, decide_eq_true_eq]
  constructor
  · rintro ⟨⟨⟨⟨⟨⟨⟨a, b⟩, c⟩, d⟩, e⟩, f⟩, g⟩, h⟩; exact ⟨a, b, c, d, e, f, g, h⟩
  · rintro ⟨a, b, c, d, e, f, g, h⟩; exact ⟨⟨⟨⟨⟨⟨⟨a, b⟩, c⟩, d⟩, e⟩, f⟩, g⟩, h⟩

/-- The byte that stands for a flag. -/
def flI (b : Bool) : Int := if b = true then 1 else 0
theorem flI_bd (b : Bool) : 0 ≤ flI b ∧ flI b ≤ 1 := by unfold flI; split <;> omega
/-- The byte i of a word, the greatest first. -/
def wbyte (v : Int) (i : Nat) : Int := IntKind.u64.wrap v / 2 ^ (8 * (7 - i)) % 256
def wordN (v : Int) (k : Nat) : List Int := (List.range k).map (wbyte v)
def wordI (v : Int) : List Int := wordN v 8
def headI (x : Pk) : List Int := [x.k % 256, x.f % 256, x.t % 256, x.i / 256 % 256, x.i % 256, x.l % 256, (x.p + 1) % 256, x.s % 256, flI x.fl, (x.z.length : Int) % 256]
def bodyI (z : List Int) : List Int := z.flatMap wordI
def packI (x : Pk) : List Int := headI x ++ bodyI x.z
theorem wordN_succ (v : Int) (k : Nat) : wordN v (k + 1) = wordN v k ++ [wbyte v k] := by unfold wordN; rw [List.range_succ, List.map_append]; rfl
theorem wordN_len (v : Int) (k : Nat) : (wordN v k).length = k := by simp [wordN]
theorem wordI_len (v : Int) : (wordI v).length = 8 := wordN_len v 8
theorem wbyte_bd (v : Int) (i : Nat) : 0 ≤ wbyte v i ∧ wbyte v i < 256 := by unfold wbyte; omega
theorem wordN_b8 (v : Int) (k : Nat) : B.B8 (wordN v k) := by
  intro y hy
  obtain ⟨j, _, rfl⟩ := List.mem_map.1 hy
  exact wbyte_bd v j
theorem bodyI_snoc (z : List Int) (v : Int) : bodyI (z ++ [v]) = bodyI z ++ wordI v := by simp [bodyI]
theorem bodyI_take (z : List Int) (k : Nat) (h : k < z.length) : bodyI (z.take (k + 1)) = bodyI (z.take k) ++ wordI (z[k]?.getD 0) := by
  rw [List.take_succ_eq_append_getElem h, bodyI_snoc]; simp [h]
theorem bodyI_len : ∀ z : List Int, (bodyI z).length = 8 * z.length
  | [] => rfl
  | v :: z => by
    have : bodyI (v :: z) = wordI v ++ bodyI z := by simp [bodyI]
    rw [this, List.length_append, wordI_len, bodyI_len z]; simp; omega
theorem bodyI_b8 (z : List Int) : B.B8 (bodyI z) := by
  intro y hy
  obtain ⟨v, _, h⟩ := List.mem_flatMap.1 hy
  exact wordN_b8 v 8 y h
theorem headI_b8 (x : Pk) : B.B8 (headI x) := by
  intro y hy
  simp only [headI, List.mem_cons, List.not_mem_nil, or_false] at hy
  rcases hy with rfl | rfl | rfl | rfl | rfl | rfl | rfl | rfl | rfl | rfl
  case inr.inr.inr.inr.inr.inr.inr.inr.inl => have := flI_bd x.fl; omega
  all_goals omega
theorem headI_len (x : Pk) : (headI x).length = 10 := rfl
theorem packI_b8 (x : Pk) : B.B8 (packI x) := B.B8_append (headI_b8 x) (bodyI_b8 x.z)
theorem packI_len (x : Pk) : (packI x).length = 10 + 8 * x.z.length := by rw [packI, List.length_append, headI_len, bodyI_len]
end Go.Proofs.Ytjdbjmfkheffdaa
end
section
namespace Go.Proofs.Ytjdbjmfkheffdaa
open Go.RowKit
set_option linter.unusedVariables false
set_option maxRecDepth 20000

/-- One byte more, as the walk spells it. -/
def rdStep (d x : Int) : Int := bits .or .u64 (IntKind.u64.wrap (d * 256)) x
def rdN (l : List Int) : Int := l.foldl rdStep 0
def wordOf (l : List Int) : Int := IntKind.i64.wrap (rdN l)
theorem rdStep_eq {d x : Int} (h0 : 0 ≤ x) (h1 : x < 256) : rdStep d x = (d * 256) % 18446744073709551616 + x := by
  unfold rdStep
  rw [IntKind.wrap_u64]
  have a0 : 0 ≤ (d * 256) % 18446744073709551616 := Int.emod_nonneg _ (by omega)
  have a1 : (d * 256) % 18446744073709551616 < 18446744073709551616 := Int.emod_lt_of_pos _ (by omega)
  have a2 : (d * 256) % 18446744073709551616 % 256 = 0 := by omega
  generalize (d * 256) % 18446744073709551616 = e at *
  rw [u64_or e x a0 a1 h0 (by omega), nat_join 8 _ _ (by omega) (by omega)]
  omega
theorem rdN_snoc (l : List Int) (x : Int) : rdN (l ++ [x]) = rdStep (rdN l) x := by unfold rdN; rw [List.foldl_append]; rfl
theorem rdN_take (l : List Int) (k : Nat) (h : k < l.length) : rdN (l.take (k + 1)) = rdStep (rdN (l.take k)) (l[k]?.getD 0) := by
  rw [List.take_succ_eq_append_getElem h, rdN_snoc]; simp [h]
theorem rdStep_bd {d x : Int} (h0 : 0 ≤ x) (h1 : x < 256) : 0 ≤ rdStep d x ∧ rdStep d x < 18446744073709551616 := by
  rw [rdStep_eq h0 h1]
  have a0 : 0 ≤ (d * 256) % 18446744073709551616 := Int.emod_nonneg _ (by omega)
  have a1 : (d * 256) % 18446744073709551616 < 18446744073709551616 := Int.emod_lt_of_pos _ (by omega)
  have a2 : (d * 256) % 18446744073709551616 % 256 = 0 := by omega
  omega
theorem rdN_bd {l : List Int} (h : B.B8 l) : 0 ≤ rdN l ∧ rdN l < 18446744073709551616 := by
  rcases List.eq_nil_or_concat l with rfl | ⟨m, x, rfl⟩
  · unfold rdN; simp
  · rw [List.concat_eq_append, rdN_snoc]
    have := h x (by simp)
    exact rdStep_bd this.1 this.2
/-- Eight bytes, and their number. -/
theorem rd8 {b0 b1 b2 b3 b4 b5 b6 b7 : Int} (h : B.B8 [b0, b1, b2, b3, b4, b5, b6, b7]) : rdN [b0, b1, b2, b3, b4, b5, b6, b7] = ((((((b0 * 256 + b1) * 256 + b2) * 256 + b3) * 256 + b4) * 256 + b5) * 256 + b6) * 256 + b7 := by
  have h0 := h b0 (by simp); have h1 := h b1 (by simp); have h2 := h b2 (by simp); have h3 := h b3 (by simp)
  have h4 := h b4 (by simp); have h5 := h b5 (by simp); have h6 := h b6 (by simp); have h7 := h b7 (by simp)
  unfold rdN
  simp only [List.foldl]
  rw [rdStep_eq h0.1 h0.2, rdStep_eq h1.1 h1.2, rdStep_eq h2.1 h2.2, rdStep_eq h3.1 h3.2, rdStep_eq h4.1 h4.2, rdStep_eq h5.1 h5.2, rdStep_eq h6.1 h6.2, rdStep_eq h7.1 h7.2]
  omega
theorem word8 (v : Int) : wordI v = [IntKind.u64.wrap v / 72057594037927936 % 256, IntKind.u64.wrap v / 281474976710656 % 256, IntKind.u64.wrap v / 1099511627776 % 256, IntKind.u64.wrap v / 4294967296 % 256, IntKind.u64.wrap v / 16777216 % 256, IntKind.u64.wrap v / 65536 % 256, IntKind.u64.wrap v / 256 % 256, IntKind.u64.wrap v % 256] := by
  have e : List.range 8 = [0, 1, 2, 3, 4, 5, 6, 7] := by decide
  unfold wordI wordN
  rw [e]
  simp [wbyte]
theorem wordOf_wordI {v : Int} (h : -9223372036854775808 ≤ v ∧ v ≤ 9223372036854775807) : wordOf (wordI v) = v := by
  unfold wordOf
  have hb := wordN_b8 v 8
  have hb' : B.B8 (wordI v) := hb
  rw [word8] at hb' ⊢
  rw [rd8 hb']
  have a0 : 0 ≤ IntKind.u64.wrap v := by rw [IntKind.wrap_u64]; omega
  have a1 : IntKind.u64.wrap v < 18446744073709551616 := by rw [IntKind.wrap_u64]; omega
  have a2 : IntKind.u64.wrap v = v ∨ IntKind.u64.wrap v = v + 18446744073709551616 := by rw [IntKind.wrap_u64]; omega
  generalize IntKind.u64.wrap v = N at *
  have e : ((((((N / 72057594037927936 % 256 * 256 + N / 281474976710656 % 256) * 256 + N / 1099511627776 % 256) * 256 + N / 4294967296 % 256) * 256 + N / 16777216 % 256) * 256 + N / 65536 % 256) * 256 + N / 256 % 256) * 256 + N % 256 = N := by omega
  rw [e, IntKind.wrap_i64]
  omega
theorem len8 {l : List Int} (h : l.length = 8) : ∃ b0 b1 b2 b3 b4 b5 b6 b7, l = [b0, b1, b2, b3, b4, b5, b6, b7] := by
  match l, h with
  | [b0, b1, b2, b3, b4, b5, b6, b7], _ => exact ⟨_, _, _, _, _, _, _, _, rfl⟩
theorem wordI_wordOf {l : List Int} (h8 : B.B8 l) (hl : l.length = 8) : wordI (wordOf l) = l := by
  obtain ⟨b0, b1, b2, b3, b4, b5, b6, b7, rfl⟩ := len8 hl
  have h0 := h8 b0 (by simp); have h1 := h8 b1 (by simp); have h2 := h8 b2 (by simp); have h3 := h8 b3 (by simp)
  have h4 := h8 b4 (by simp); have h5 := h8 b5 (by simp); have h6 := h8 b6 (by simp); have h7 := h8 b7 (by simp)
  rw [word8]
  have e : IntKind.u64.wrap (wordOf [b0, b1, b2, b3, b4, b5, b6, b7]) = ((((((b0 * 256 + b1) * 256 + b2) * 256 + b3) * 256 + b4) * 256 + b5) * 256 + b6) * 256 + b7 := by
    unfold wordOf
    rw [rd8 h8, IntKind.wrap_u64, IntKind.wrap_i64]
    omega
  rw [e]
  have g0 : (((((((b0 * 256 + b1) * 256 + b2) * 256 + b3) * 256 + b4) * 256 + b5) * 256 + b6) * 256 + b7) / 72057594037927936 % 256 = b0 := by omega
  have g1 : (((((((b0 * 256 + b1) * 256 + b2) * 256 + b3) * 256 + b4) * 256 + b5) * 256 + b6) * 256 + b7) / 281474976710656 % 256 = b1 := by omega
  have g2 : (((((((b0 * 256 + b1) * 256 + b2) * 256 + b3) * 256 + b4) * 256 + b5) * 256 + b6) * 256 + b7) / 1099511627776 % 256 = b2 := by omega
  have g3 : (((((((b0 * 256 + b1) * 256 + b2) * 256 + b3) * 256 + b4) * 256 + b5) * 256 + b6) * 256 + b7) / 4294967296 % 256 = b3 := by omega
  have g4 : (((((((b0 * 256 + b1) * 256 + b2) * 256 + b3) * 256 + b4) * 256 + b5) * 256 + b6) * 256 + b7) / 16777216 % 256 = b4 := by omega
  have g5 : (((((((b0 * 256 + b1) * 256 + b2) * 256 + b3) * 256 + b4) * 256 + b5) * 256 + b6) * 256 + b7) / 65536 % 256 = b5 := by omega
  have g6 : (((((((b0 * 256 + b1) * 256 + b2) * 256 + b3) * 256 + b4) * 256 + b5) * 256 + b6) * 256 + b7) / 256 % 256 = b6 := by omega
  have g7 : (((((((b0 * 256 + b1) * 256 + b2) * 256 + b3) * 256 + b4) * 256 + b5) * 256 + b6) * 256 + b7) % 256 = b7 := by omega
  rw [g0, g1, g2, g3, g4, g5, g6, g7]

/-- So many words of bytes. -/
def wordsN (l : List Int) (m : Nat) : List Int := (List.range m).map fun i => wordOf ((l.drop (8 * i)).take 8)
theorem wordsN_len (l : List Int) (m : Nat) : (wordsN l m).length = m := by simp [wordsN]
theorem wordsN_succ (l : List Int) (m : Nat) : wordsN l (m + 1) = wordsN l m ++ [wordOf ((l.drop (8 * m)).take 8)] := by unfold wordsN; rw [List.range_succ, List.map_append]; rfl
theorem body_words {l : List Int} (h8 : B.B8 l) : ∀ m, 8 * m ≤ l.length → bodyI (wordsN l m) = l.take (8 * m)
  | 0, _ => by simp [wordsN, bodyI]
  | m + 1, h => by
    rw [wordsN_succ, bodyI_snoc, body_words h8 m (by omega), wordI_wordOf (B.B8_take (B.B8_drop h8 _) 8) (by simp; omega), show 8 * (m + 1) = 8 * m + 8 by omega, List.take_add]
theorem words_body : ∀ z : List Int, (∀ x ∈ z, -9223372036854775808 ≤ x ∧ x ≤ 9223372036854775807) → wordsN (bodyI z) z.length = z := by
  intro z hz
  refine List.ext_getElem (by simp [wordsN]) fun i h1 h2 => ?_
  have hi : i < z.length := h2
  have key : ((bodyI z).drop (8 * i)).take 8 = wordI z[i] := by
    have e : bodyI z = bodyI (z.take i) ++ (wordI z[i] ++ bodyI (z.drop (i + 1))) := by
      have e1 : z = z.take i ++ (z[i] :: z.drop (i + 1)) := by rw [← List.drop_eq_getElem_cons hi, List.take_append_drop]
      conv => lhs; rw [e1]
      unfold bodyI
      rw [List.flatMap_append, List.flatMap_cons]
    have hl : (bodyI (z.take i)).length = 8 * i := by rw [bodyI_len]; simp; omega
    rw [e, ← hl, List.drop_left, List.take_left' (wordI_len _)]
  simp only [wordsN, List.getElem_map, List.getElem_range]
  rw [key]
  exact wordOf_wordI (hz _ (List.getElem_mem hi))

/-- Bytes of a packet's form. -/
def formB (l : List Int) : Bool := decide (10 ≤ l.length) && (decide (l[8]?.getD 0 ≤ 1) && decide ((l.length : Int) = 10 + 8 * l[9]?.getD 0))
/-- What is read of them. -/
def readP (l : List Int) : Pk := ⟨l[0]?.getD 0, l[1]?.getD 0, l[2]?.getD 0, l[3]?.getD 0 * 256 + l[4]?.getD 0, l[5]?.getD 0, l[6]?.getD 0 - 1, l[7]?.getD 0, l[8]?.getD 0 == 1, wordsN (l.drop 10) ((l.length - 10) / 8)⟩
theorem take10 {l : List Int} (h : 10 ≤ l.length) : l.take 10 = [l[0]?.getD 0, l[1]?.getD 0, l[2]?.getD 0, l[3]?.getD 0, l[4]?.getD 0, l[5]?.getD 0, l[6]?.getD 0, l[7]?.getD 0, l[8]?.getD 0, l[9]?.getD 0] := by
  match l, h with
  | a :: b :: c :: d :: e :: f :: g :: h :: i :: j :: l, _ => simp
/-- What has the form is packed as it was read, but for a flag that is none. -/
theorem pack_read {l : List Int} (h8 : B.B8 l) (h10 : 10 ≤ l.length) (hl : (l.length : Int) = 10 + 8 * l[9]?.getD 0) : packI (readP l) = l ↔ l[8]?.getD 0 ≤ 1 := by
  have hz : (readP l).z = wordsN (l.drop 10) ((l.length - 10) / 8) := rfl
  have hb : bodyI (readP l).z = l.drop 10 := by
    rw [hz, body_words (B.B8_drop h8 10) _ (by simp; omega), List.take_of_length_le (by simp; omega)]
  have hn : (readP l).z.length = (l.length - 10) / 8 := by rw [hz, wordsN_len]
  have b0 := B.B8_get h8 0; have b1 := B.B8_get h8 1; have b2 := B.B8_get h8 2; have b3 := B.B8_get h8 3; have b4 := B.B8_get h8 4
  have b5 := B.B8_get h8 5; have b6 := B.B8_get h8 6; have b7 := B.B8_get h8 7; have b8 := B.B8_get h8 8; have b9 := B.B8_get h8 9
  have e9 : (((l.length - 10) / 8 : Nat) : Int) = l[9]?.getD 0 := by omega
  have hh : headI (readP l) = [l[0]?.getD 0, l[1]?.getD 0, l[2]?.getD 0, l[3]?.getD 0, l[4]?.getD 0, l[5]?.getD 0, l[6]?.getD 0, l[7]?.getD 0, flI (l[8]?.getD 0 == 1), l[9]?.getD 0] := by
    unfold headI
    rw [hn, e9]
    simp only [readP]
    generalize l[0]?.getD 0 = a0 at *; generalize l[1]?.getD 0 = a1 at *; generalize l[2]?.getD 0 = a2 at *; generalize l[3]?.getD 0 = a3 at *; generalize l[4]?.getD 0 = a4 at *
    generalize l[5]?.getD 0 = a5 at *; generalize l[6]?.getD 0 = a6 at *; generalize l[7]?.getD 0 = a7 at *; generalize l[9]?.getD 0 = a9 at *
    rw [show a0 % 256 = a0 by omega, show a1 % 256 = a1 by omega, show a2 % 256 = a2 by omega, show (a3 * 256 + a4) / 256 % 256 = a3 by omega, show (a3 * 256 + a4) % 256 = a4 by omega, show a5 % 256 = a5 by omega, show (a6 - 1 + 1) % 256 = a6 by omega, show a7 % 256 = a7 by omega, show a9 % 256 = a9 by omega]
  have hsplit : l = l.take 10 ++ l.drop 10 := (List.take_append_drop 10 l).symm
  rw [take10 h10] at hsplit
  unfold packI
  rw [hb, hh]
  constructor
  · intro h
    have h' := congrArg (fun m : List Int => m[8]?.getD 0) h
    simp at h'
    have hf := flI_bd (l[8]?.getD 0 == 1)
    omega
  · intro h
    have : flI (l[8]?.getD 0 == 1) = l[8]?.getD 0 := by
      unfold flI
      rcases (show l[8]?.getD 0 = 0 ∨ l[8]?.getD 0 = 1 by omega) with e | e <;> simp [e]
    rw [this]
    exact hsplit.symm
end Go.Proofs.Ytjdbjmfkheffdaa
end
section
namespace Go.Proofs.Ytjdbjmfkheffdaa
open Go.RowKit
set_option linter.unusedVariables false

theorem pw_any (a n b : Int) (w : World) :
    Calls Try.prog 53 #[.int .i64 a, .int .i64 n, .int .i64 b] w fun e w' => e = .returned (.bool (inB a n b)) ∧ w = w' := by
  by_cases h : a ≤ n
  · have h' : decide (a ≤ n) = true := decide_eq_true h
    go_enter Try.func53, Try.ntmps53
    go_wp2
    go_ret
    exact ⟨ret_bool (by unfold inB; simp [h]), rfl⟩
  · have h' : decide (a ≤ n) = false := decide_eq_false h
    go_enter Try.func53, Try.ntmps53
    go_wp2
    go_ret
    exact ⟨ret_bool (inB_f (by omega)).symm, rfl⟩
theorem flagByte_any (b : Bool) (w : World) :
    Calls Try.prog 79 #[.bool b] w fun e w' => e = .returned (.int .u8 (flI b)) ∧ w = w' := by
  cases b
  · go_enter Try.func79, Try.ntmps79
    go_wp2
    go_ret
    exact ⟨rfl, rfl⟩
  · go_enter Try.func79, Try.ntmps79
    go_wp2
    go_ret
    exact ⟨rfl, rfl⟩
theorem inB_not {a n b : Int} (h : (!inB a n b) = true) : inB a n b = false := by simpa using h

set_option maxHeartbeats 1000000 in
theorem check_any (x : Pk) (a : Option Addr) (n cap : Nat) (w : World) (hsl : Sl w a n cap x.z) :
    Calls Try.prog 31 #[x.val (.slice a n cap)] w fun e w' => e = .returned (.int .i64 x.err) ∧ Below w.heap.size w w' := by
  have hl := hsl.len
  have hle := hsl.le
  have hmx := hsl.max
  unfold maxLen at hmx
  obtain ⟨k, f, t, i, l, p, s, fl, z⟩ := x
  simp only at hl
  have HE : ∀ v : Int, Pk.err ⟨k, f, t, i, l, p, s, fl, z⟩ = v → Ending.returned (.int .i64 v) = Ending.returned (.int .i64 (Pk.err ⟨k, f, t, i, l, p, s, fl, z⟩)) := fun v h => by rw [h]
  have H1 : Hid (inB 1 k 9 = false ∨ inB 0 f 5 = false ∨ inB 0 t 5 = false ∨ inB 0 i 4095 = false ∨ inB 0 l 7 = false ∨ inB (-1) p 5 = false ∨ inB 0 s 2 = false ∨ 4 < (n : Int) → Pk.err ⟨k, f, t, i, l, p, s, fl, z⟩ = 1) := fun h => Pk.err_f (by unfold Pk.right; rcases h with h | h | h | h | h | h | h | h <;> simp [h]; omega)
  have H0 : Hid (inB 1 k 9 = true → inB 0 f 5 = true → inB 0 t 5 = true → inB 0 i 4095 = true → inB 0 l 7 = true → inB (-1) p 5 = true → inB 0 s 2 = true → (n : Int) ≤ 4 → Pk.err ⟨k, f, t, i, l, p, s, fl, z⟩ = 0) := fun h1 h2 h3 h4 h5 h6 h7 h8 => Pk.err_t (by unfold Pk.right; simp [h1, h2, h3, h4, h5, h6, h7]; omega)
  unfold Pk.val
  go_enter Try.func31, Try.ntmps31
  go_wp2_with (go_at_call 53; refine (pw_any _ _ _ _).mono ?_; rintro e w1 ⟨rfl, rfl⟩)
  all_goals go_ret
  all_goals refine ⟨HE _ ?_, (Below.refl _ _).alloc (Nat.le_refl _) _⟩
  all_goals clear HE
  all_goals simp only [Bool.not_eq_true', Bool.not_eq_false'] at *
  all_goals first
    | exact H0.out (by assumption) (by assumption) (by assumption) (by assumption) (by assumption) (by assumption) (by assumption) (by assumption)
    | exact H1.out (.inl (by assumption))
    | exact H1.out (.inr (.inl (by assumption)))
    | exact H1.out (.inr (.inr (.inl (by assumption))))
    | exact H1.out (.inr (.inr (.inr (.inl (by assumption)))))
    | exact H1.out (.inr (.inr (.inr (.inr (.inl (by assumption))))))
    | exact H1.out (.inr (.inr (.inr (.inr (.inr (.inl (by assumption)))))))
    | exact H1.out (.inr (.inr (.inr (.inr (.inr (.inr (.inl (by assumption))))))))
    | exact H1.out (.inr (.inr (.inr (.inr (.inr (.inr (.inr (by assumption))))))))
    | (exfalso; clear H0 H1; simp_all; done)
end Go.Proofs.Ytjdbjmfkheffdaa
end
