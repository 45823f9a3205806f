/- More plain mathematics of chapter 1: bytes and their own sum have the sum 0, and only they. No condition. -/
import Derived.Test.YtgeiagndpfdnlaaBMath
namespace Go.Proofs.Ytgeiagndpfdnlaa.B
open Go.RowKit

theorem run_own (s : BitVec 16) : ∀ k, runD s ((List.range k).map s.getMsbD) = s <<< k
  | 0 => by simp [runD]
  | k + 1 => by
    rw [List.range_succ, List.map_append, runD_append, run_own s k]
    show stepD (s <<< k) (s.getMsbD k) = _
    unfold stepD
    rw [BitVec.msb_shiftLeft, Bool.xor_self, if_neg (by simp), BitVec.shiftLeft_add]
def digits16 (s : BitVec 16) : List Bool := (List.range 16).map s.getMsbD
theorem run_own16 (s : BitVec 16) : runD s (digits16 s) = 0#16 := by
  unfold digits16; rw [run_own]; simp
theorem zip_falses : ∀ ds : List Bool, List.zipWith (fun c d => c ^^ d) (List.replicate ds.length false) ds = ds
  | [] => rfl
  | d :: ds => by simp [List.replicate_succ, zip_falses ds]
theorem run16 (s m : BitVec 16) : runD s (digits16 m) = 0#16 ↔ s = m := by
  constructor
  · intro h
    have e := runD_lin (List.replicate (digits16 m).length false) (digits16 m) (by simp) (s ^^^ m) m
    rw [zip_falses, BitVec.xor_assoc, BitVec.xor_self, BitVec.xor_zero, h, run_own16, BitVec.xor_zero] at e
    have := runD_falses _ _ e.symm
    rw [← BitVec.xor_zero (x := s), ← BitVec.xor_self (x := m), ← BitVec.xor_assoc, this, BitVec.zero_xor]
  · rintro rfl; exact run_own16 s
theorem digits_two (h g : BitVec 8) : digits [h, g] = digits16 (h ++ g) := by
  unfold digits digits16 digitsD
  simp only [List.flatMap_cons, List.flatMap_nil, List.append_nil]
  rw [show List.range 16 = List.range 8 ++ (List.range 8).map (8 + ·) by decide, List.map_append, List.map_map]
  congr 1
  · refine List.map_congr_left fun i hi => ?_
    have : i < 8 := List.mem_range.1 hi
    rw [BitVec.getMsbD_append]; simp [show ¬ 8 ≤ i by omega]
  · refine List.map_congr_left fun i hi => ?_
    show _ = (h ++ g).getMsbD (8 + i)
    rw [BitVec.getMsbD_append]; simp
theorem toNat_two (h g : BitVec 8) : (h ++ g).toNat = h.toNat * 256 + g.toNat := by
  rw [BitVec.toNat_append, ← Nat.shiftLeft_add_eq_or_of_lt g.isLt, Nat.shiftLeft_eq]
theorem sum_whole (l : List Int) (h g : Int) (h8 : B8 l) (h0 : 0 ≤ h) (h1 : h < 256) (g0 : 0 ≤ g) (g1 : g < 256) : sumI (l ++ [h, g]) = 0 ↔ sumI l = h * 256 + g := by
  obtain ⟨m, rfl⟩ := ints_of l h8
  obtain ⟨h, rfl⟩ := byte_of h h0 h1
  obtain ⟨g, rfl⟩ := byte_of g g0 g1
  have e : ints m ++ [(h.toNat : Int), (g.toNat : Int)] = ints (m ++ [h, g]) := by simp [ints]
  have d : digits (m ++ [h, g]) = digits m ++ digits [h, g] := by simp [digits]
  rw [e, sumI_eq, sumI_eq, d, runD_append, digits_two]
  have r := run16 (runD 65535#16 (digits m)) (h ++ g)
  have t := toNat_two h g
  generalize runD 65535#16 (digits m) = s at *
  generalize runD s (digits16 (h ++ g)) = u at *
  constructor
  · intro hu
    have : u = 0#16 := BitVec.eq_of_toNat_eq (by simpa using hu)
    rw [r.1 this]; omega
  · intro hs
    have : s = h ++ g := BitVec.eq_of_toNat_eq (by omega)
    rw [r.2 this]; rfl
theorem split_two {l : List Int} {m : Nat} (hl : l.length = m + 2) : l = l.take m ++ [l[m]?.getD 0, l[m + 1]?.getD 0] := by
  have a1 : l.take (m + 1) = l.take m ++ [l[m]?.getD 0] := by rw [List.take_succ_eq_append_getElem (by omega)]; simp [show m < l.length by omega]
  have a2 : l.take (m + 2) = l.take (m + 1) ++ [l[m + 1]?.getD 0] := by rw [List.take_succ_eq_append_getElem (by omega)]; simp [show m + 1 < l.length by omega]
  rw [List.take_of_length_le (by omega), a1] at a2
  simpa using a2
theorem sum_whole' {l : List Int} {m : Nat} (hl : l.length = m + 2) (h8 : B8 l) : sumI l = 0 ↔ sumI (l.take m) = l[m]?.getD 0 * 256 + l[m + 1]?.getD 0 := by
  have a := B8_get h8 m
  have b := B8_get h8 (m + 1)
  have := sum_whole (l.take m) _ _ (B8_take h8 m) a.1 a.2 b.1 b.2
  rw [← split_two hl] at this
  exact this
end Go.Proofs.Ytgeiagndpfdnlaa.B
