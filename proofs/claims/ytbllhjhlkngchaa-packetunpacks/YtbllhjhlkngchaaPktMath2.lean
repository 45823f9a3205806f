/- Words as bytes and back; packets as bytes and back. No condition. -/
import Derived.Test.YtbllhjhlkngchaaPktMath
namespace Go.Proofs.Ytbllhjhlkngchaa
open Go.RowKit
set_option linter.unusedVariables false

/-- One byte more, as the walk spells it. -/
def rdStep (d x : Int) : Int := bits .or .u64 (IntKind.u64.wrap (d * 256)) x
def rdN (l : List Int) : Int := l.foldl rdStep 0
def wordOf (l : List Int) : Int := IntKind.i64.wrap (rdN l)
theorem rdStep_eq {d x : Int} (h0 : 0 ≤ x) (h1 : x < 256) : rdStep d x = (d * 256) % 18446744073709551616 + x := by
  unfold rdStep
  rw [IntKind.wrap_u64]
  have a0 : 0 ≤ (d * 256) % 18446744073709551616 := Int.emod_nonneg _ (by omega)
  have a1 : (d * 256) % 18446744073709551616 < 18446744073709551616 := Int.emod_lt_of_pos _ (by omega)
  have a2 : (d * 256) % 18446744073709551616 % 256 = 0 := by omega
  generalize (d * 256) % 18446744073709551616 = e at *
  rw [u64_or e x a0 a1 h0 (by omega), nat_join 8 _ _ (by omega) (by omega)]
  omega
theorem rdN_snoc (l : List Int) (x : Int) : rdN (l ++ [x]) = rdStep (rdN l) x := by unfold rdN; rw [List.foldl_append]; rfl
theorem rdN_take (l : List Int) (k : Nat) (h : k < l.length) : rdN (l.take (k + 1)) = rdStep (rdN (l.take k)) (l[k]?.getD 0) := by
  rw [List.take_succ_eq_append_getElem h, rdN_snoc]; simp [h]
theorem rdStep_bd {d x : Int} (h0 : 0 ≤ x) (h1 : x < 256) : 0 ≤ rdStep d x ∧ rdStep d x < 18446744073709551616 := by
  rw [rdStep_eq h0 h1]
  have a0 : 0 ≤ (d * 256) % 18446744073709551616 := Int.emod_nonneg _ (by omega)
  have a1 : (d * 256) % 18446744073709551616 < 18446744073709551616 := Int.emod_lt_of_pos _ (by omega)
  have a2 : (d * 256) % 18446744073709551616 % 256 = 0 := by omega
  omega
theorem rdN_bd {l : List Int} (h : B.B8 l) : 0 ≤ rdN l ∧ rdN l < 18446744073709551616 := by
  rcases List.eq_nil_or_concat l with rfl | ⟨m, x, rfl⟩
  · unfold rdN; simp
  · rw [List.concat_eq_append, rdN_snoc]
    have := h x (by simp)
    exact rdStep_bd this.1 this.2
/-- Eight bytes, and their number. -/
theorem rd8 {b0 b1 b2 b3 b4 b5 b6 b7 : Int} (h : B.B8 [b0, b1, b2, b3, b4, b5, b6, b7]) : rdN [b0, b1, b2, b3, b4, b5, b6, b7] = ((((((b0 * 256 + b1) * 256 + b2) * 256 + b3) * 256 + b4) * 256 + b5) * 256 + b6) * 256 + b7 := by
  have h0 := h b0 (by simp); have h1 := h b1 (by simp); have h2 := h b2 (by simp); have h3 := h b3 (by simp)
  have h4 := h b4 (by simp); have h5 := h b5 (by simp); have h6 := h b6 (by simp); have h7 := h b7 (by simp)
  unfold rdN
  simp only [List.foldl]
  rw [rdStep_eq h0.1 h0.2, rdStep_eq h1.1 h1.2, rdStep_eq h2.1 h2.2, rdStep_eq h3.1 h3.2, rdStep_eq h4.1 h4.2, rdStep_eq h5.1 h5.2, rdStep_eq h6.1 h6.2, rdStep_eq h7.1 h7.2]
  omega
theorem word8 (v : Int) : wordI v = [IntKind.u64.wrap v / 72057594037927936 % 256, IntKind.u64.wrap v / 281474976710656 % 256, IntKind.u64.wrap v / 1099511627776 % 256, IntKind.u64.wrap v / 4294967296 % 256, IntKind.u64.wrap v / 16777216 % 256, IntKind.u64.wrap v / 65536 % 256, IntKind.u64.wrap v / 256 % 256, IntKind.u64.wrap v % 256] := by
  have e : List.range 8 = [0, 1, 2, 3, 4, 5, 6, 7] := by decide
  unfold wordI wordN
  rw [e]
  simp [wbyte]
theorem wordOf_wordI {v : Int} (h : -9223372036854775808 ≤ v ∧ v ≤ 9223372036854775807) : wordOf (wordI v) = v := by
  unfold wordOf
  have hb := wordN_b8 v 8
  have hb' : B.B8 (wordI v) := hb
  rw [word8] at hb' ⊢
  rw [rd8 hb']
  have a0 : 0 ≤ IntKind.u64.wrap v := by rw [IntKind.wrap_u64]; omega
  have a1 : IntKind.u64.wrap v < 18446744073709551616 := by rw [IntKind.wrap_u64]; omega
  have a2 : IntKind.u64.wrap v = v ∨ IntKind.u64.wrap v = v + 18446744073709551616 := by rw [IntKind.wrap_u64]; omega
  generalize IntKind.u64.wrap v = N at *
  have e : ((((((N / 72057594037927936 % 256 * 256 + N / 281474976710656 % 256) * 256 + N / 1099511627776 % 256) * 256 + N / 4294967296 % 256) * 256 + N / 16777216 % 256) * 256 + N / 65536 % 256) * 256 + N / 256 % 256) * 256 + N % 256 = N := by omega
  rw [e, IntKind.wrap_i64]
  omega
theorem len8 {l : List Int} (h : l.length = 8) : ∃ b0 b1 b2 b3 b4 b5 b6 b7, l = [b0, b1, b2, b3, b4, b5, b6, b7] := by
  match l, h with
  | [b0, b1, b2, b3, b4, b5, b6, b7], _ => exact ⟨_, _, _, _, _, _, _, _, rfl⟩
theorem wordI_wordOf {l : List Int} (h8 : B.B8 l) (hl : l.length = 8) : wordI (wordOf l) = l := by
  obtain ⟨b0, b1, b2, b3, b4, b5, b6, b7, rfl⟩ := len8 hl
  have h0 := h8 b0 (by simp); have h1 := h8 b1 (by simp); have h2 := h8 b2 (by simp); have h3 := h8 b3 (by simp)
  have h4 := h8 b4 (by simp); have h5 := h8 b5 (by simp); have h6 := h8 b6 (by simp); have h7 := h8 b7 (by simp)
  rw [word8]
  have e : IntKind.u64.wrap (wordOf [b0, b1, b2, b3, b4, b5, b6, b7]) = ((((((b0 * 256 + b1) * 256 + b2) * 256 + b3) * 256 + b4) * 256 + b5) * 256 + b6) * 256 + b7 := by
    unfold wordOf
    rw [rd8 h8, IntKind.wrap_u64, IntKind.wrap_i64]
    omega
  rw [e]
  have g0 : (((((((b0 * 256 + b1) * 256 + b2) * 256 + b3) * 256 + b4) * 256 + b5) * 256 + b6) * 256 + b7) / 72057594037927936 % 256 = b0 := by omega
  have g1 : (((((((b0 * 256 + b1) * 256 + b2) * 256 + b3) * 256 + b4) * 256 + b5) * 256 + b6) * 256 + b7) / 281474976710656 % 256 = b1 := by omega
  have g2 : (((((((b0 * 256 + b1) * 256 + b2) * 256 + b3) * 256 + b4) * 256 + b5) * 256 + b6) * 256 + b7) / 1099511627776 % 256 = b2 := by omega
  have g3 : (((((((b0 * 256 + b1) * 256 + b2) * 256 + b3) * 256 + b4) * 256 + b5) * 256 + b6) * 256 + b7) / 4294967296 % 256 = b3 := by omega
  have g4 : (((((((b0 * 256 + b1) * 256 + b2) * 256 + b3) * 256 + b4) * 256 + b5) * 256 + b6) * 256 + b7) / 16777216 % 256 = b4 := by omega
  have g5 : (((((((b0 * 256 + b1) * 256 + b2) * 256 + b3) * 256 + b4) * 256 + b5) * 256 + b6) * 256 + b7) / 65536 % 256 = b5 := by omega
  have g6 : (((((((b0 * 256 + b1) * 256 + b2) * 256 + b3) * 256 + b4) * 256 + b5) * 256 + b6) * 256 + b7) / 256 % 256 = b6 := by omega
  have g7 : (((((((b0 * 256 + b1) * 256 + b2) * 256 + b3) * 256 + b4) * 256 + b5) * 256 + b6) * 256 + b7) % 256 = b7 := by omega
  rw [g0, g1, g2, g3, g4, g5, g6, g7]

/-- So many words of bytes. -/
def wordsN (l : List Int) (m : Nat) : List Int := (List.range m).map fun i => wordOf ((l.drop (8 * i)).take 8)
theorem wordsN_len (l : List Int) (m : Nat) : (wordsN l m).length = m := by simp [wordsN]
theorem wordsN_succ (l : List Int) (m : Nat) : wordsN l (m + 1) = wordsN l m ++ [wordOf ((l.drop (8 * m)).take 8)] := by unfold wordsN; rw [List.range_succ, List.map_append]; rfl
theorem body_words {l : List Int} (h8 : B.B8 l) : ∀ m, 8 * m ≤ l.length → bodyI (wordsN l m) = l.take (8 * m)
  | 0, _ => by simp [wordsN, bodyI]
  | m + 1, h => by
    rw [wordsN_succ, bodyI_snoc, body_words h8 m (by omega), wordI_wordOf (B.B8_take (B.B8_drop h8 _) 8) (by simp; omega), show 8 * (m + 1) = 8 * m + 8 by omega, List.take_add]
theorem words_body : ∀ z : List Int, (∀ x ∈ z, -9223372036854775808 ≤ x ∧ x ≤ 9223372036854775807) → wordsN (bodyI z) z.length = z := by
  intro z hz
  refine List.ext_getElem (by simp [wordsN]) fun i h1 h2 => ?_
  have hi : i < z.length := h2
  have key : ((bodyI z).drop (8 * i)).take 8 = wordI z[i] := by
    have e : bodyI z = bodyI (z.take i) ++ (wordI z[i] ++ bodyI (z.drop (i + 1))) := by
      have e1 : z = z.take i ++ (z[i] :: z.drop (i + 1)) := by rw [← List.drop_eq_getElem_cons hi, List.take_append_drop]
      conv => lhs; rw [e1]
      unfold bodyI
      rw [List.flatMap_append, List.flatMap_cons]
    have hl : (bodyI (z.take i)).length = 8 * i := by rw [bodyI_len]; simp; omega
    rw [e, ← hl, List.drop_left, List.take_left' (wordI_len _)]
  simp only [wordsN, List.getElem_map, List.getElem_range]
  rw [key]
  exact wordOf_wordI (hz _ (List.getElem_mem hi))

/-- Bytes of a packet's form. -/
def formB (l : List Int) : Bool := decide (10 ≤ l.length) && (decide (l[8]?.getD 0 ≤ 1) && decide ((l.length : Int) = 10 + 8 * l[9]?.getD 0))
/-- What is read of them. -/
def readP (l : List Int) : Pk := ⟨l[0]?.getD 0, l[1]?.getD 0, l[2]?.getD 0, l[3]?.getD 0 * 256 + l[4]?.getD 0, l[5]?.getD 0, l[6]?.getD 0 - 1, l[7]?.getD 0, l[8]?.getD 0 == 1, wordsN (l.drop 10) ((l.length - 10) / 8)⟩
theorem take10 {l : List Int} (h : 10 ≤ l.length) : l.take 10 = [l[0]?.getD 0, l[1]?.getD 0, l[2]?.getD 0, l[3]?.getD 0, l[4]?.getD 0, l[5]?.getD 0, l[6]?.getD 0, l[7]?.getD 0, l[8]?.getD 0, l[9]?.getD 0] := by
  match l, h with
  | a :: b :: c :: d :: e :: f :: g :: h :: i :: j :: l, _ => simp
/-- What has the form is packed as it was read, but for a flag that is none. -/
theorem pack_read {l : List Int} (h8 : B.B8 l) (h10 : 10 ≤ l.length) (hl : (l.length : Int) = 10 + 8 * l[9]?.getD 0) : packI (readP l) = l ↔ l[8]?.getD 0 ≤ 1 := by
  have hz : (readP l).z = wordsN (l.drop 10) ((l.length - 10) / 8) := rfl
  have hb : bodyI (readP l).z = l.drop 10 := by
    rw [hz, body_words (B.B8_drop h8 10) _ (by simp; omega), List.take_of_length_le (by simp; omega)]
  have hn : (readP l).z.length = (l.length - 10) / 8 := by rw [hz, wordsN_len]
  have b0 := B.B8_get h8 0; have b1 := B.B8_get h8 1; have b2 := B.B8_get h8 2; have b3 := B.B8_get h8 3; have b4 := B.B8_get h8 4
  have b5 := B.B8_get h8 5; have b6 := B.B8_get h8 6; have b7 := B.B8_get h8 7; have b8 := B.B8_get h8 8; have b9 := B.B8_get h8 9
  have e9 : (((l.length - 10) / 8 : Nat) : Int) = l[9]?.getD 0 := by omega
  have hh : headI (readP l) = [l[0]?.getD 0, l[1]?.getD 0, l[2]?.getD 0, l[3]?.getD 0, l[4]?.getD 0, l[5]?.getD 0, l[6]?.getD 0, l[7]?.getD 0, flI (l[8]?.getD 0 == 1), l[9]?.getD 0] := by
    unfold headI
    rw [hn, e9]
    simp only [readP]
    generalize l[0]?.getD 0 = a0 at *; generalize l[1]?.getD 0 = a1 at *; generalize l[2]?.getD 0 = a2 at *; generalize l[3]?.getD 0 = a3 at *; generalize l[4]?.getD 0 = a4 at *
    generalize l[5]?.getD 0 = a5 at *; generalize l[6]?.getD 0 = a6 at *; generalize l[7]?.getD 0 = a7 at *; generalize l[9]?.getD 0 = a9 at *
    rw [show a0 % 256 = a0 by omega, show a1 % 256 = a1 by omega, show a2 % 256 = a2 by omega, show (a3 * 256 + a4) / 256 % 256 = a3 by omega, show (a3 * 256 + a4) % 256 = a4 by omega, show a5 % 256 = a5 by omega, show (a6 - 1 + 1) % 256 = a6 by omega, show a7 % 256 = a7 by omega, show a9 % 256 = a9 by omega]
  have hsplit : l = l.take 10 ++ l.drop 10 := (List.take_append_drop 10 l).symm
  rw [take10 h10] at hsplit
  unfold packI
  rw [hb, hh]
  constructor
  · intro h
    have h' := congrArg (fun m : List Int => m[8]?.getD 0) h
    simp at h'
    have hf := flI_bd (l[8]?.getD 0 == 1)
    omega
  · intro h
    have : flI (l[8]?.getD 0 == 1) = l[8]?.getD 0 := by
      unfold flI
      rcases (show l[8]?.getD 0 = 0 ∨ l[8]?.getD 0 = 1 by omega) with e | e <;> simp [e]
    rw [this]
    exact hsplit.symm
end Go.Proofs.Ytbllhjhlkngchaa
