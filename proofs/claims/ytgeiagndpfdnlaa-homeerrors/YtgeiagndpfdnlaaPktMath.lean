/- Packets as plain data: what may be, and their bytes. No condition. -/
import Derived.Test.YtgeiagndpfdnlaaBAids
import Derived.Test.YtgeiagndpfdnlaaTake3
import Derived.Test.YtgeiagndpfdnlaaPk0
namespace Go.Proofs.Ytgeiagndpfdnlaa
open Go.RowKit
set_option linter.unusedVariables false

def pkInB (a n b : Int) : Bool := decide (a ≤ n ∧ n ≤ b)
theorem inB_t {a n b : Int} (h1 : a ≤ n) (h2 : n ≤ b) : pkInB a n b = true := decide_eq_true ⟨h1, h2⟩
theorem inB_f {a n b : Int} (h : n < a ∨ b < n) : pkInB a n b = false := decide_eq_false (by omega)
theorem inB_out {a n b : Int} (h : pkInB a n b = true) : a ≤ n ∧ n ≤ b := of_decide_eq_true h
/-- May the packet be? -/
def Pk.right (x : Pk) : Bool := pkInB 1 x.k 9 && pkInB 0 x.f 5 && pkInB 0 x.t 5 && pkInB 0 x.i 4095 && pkInB 0 x.l 7 && pkInB (-1) x.p 5 && pkInB 0 x.s 2 && decide (x.z.length ≤ 4)
def Pk.err (x : Pk) : Int := if x.right = true then 0 else 1
theorem Pk.err_t {x : Pk} (h : x.right = true) : x.err = 0 := if_pos h
theorem Pk.err_f {x : Pk} (h : x.right = false) : x.err = 1 := if_neg (by rw [h]; exact Bool.false_ne_true)
structure Pk.Right (x : Pk) : Prop where
  k : 1 ≤ x.k ∧ x.k ≤ 9
  f : 0 ≤ x.f ∧ x.f ≤ 5
  t : 0 ≤ x.t ∧ x.t ≤ 5
  i : 0 ≤ x.i ∧ x.i ≤ 4095
  l : 0 ≤ x.l ∧ x.l ≤ 7
  p : -1 ≤ x.p ∧ x.p ≤ 5
  s : 0 ≤ x.s ∧ x.s ≤ 2
  z : x.z.length ≤ 4
theorem Pk.right_iff (x : Pk) : x.right = true ↔ x.Right := by
  unfold Pk.right pkInB
  simp only [Bool.and_eq_true, decide_eq_true_eq]
  constructor
  · rintro ⟨⟨⟨⟨⟨⟨⟨a, b⟩, c⟩, d⟩, e⟩, f⟩, g⟩, h⟩; exact ⟨a, b, c, d, e, f, g, h⟩
  · rintro ⟨a, b, c, d, e, f, g, h⟩; exact ⟨⟨⟨⟨⟨⟨⟨a, b⟩, c⟩, d⟩, e⟩, f⟩, g⟩, h⟩

/-- The byte that stands for a flag. -/
def flI (b : Bool) : Int := if b = true then 1 else 0
theorem flI_bd (b : Bool) : 0 ≤ flI b ∧ flI b ≤ 1 := by unfold flI; split <;> omega
/-- The byte i of a word, the greatest first. -/
def wbyte (v : Int) (i : Nat) : Int := IntKind.u64.wrap v / 2 ^ (8 * (7 - i)) % 256
def wordN (v : Int) (k : Nat) : List Int := (List.range k).map (wbyte v)
def pkWordI (v : Int) : List Int := wordN v 8
def headI (x : Pk) : List Int := [x.k % 256, x.f % 256, x.t % 256, x.i / 256 % 256, x.i % 256, x.l % 256, (x.p + 1) % 256, x.s % 256, flI x.fl, (x.z.length : Int) % 256]
def bodyI (z : List Int) : List Int := z.flatMap pkWordI
def packI (x : Pk) : List Int := headI x ++ bodyI x.z
theorem wordN_succ (v : Int) (k : Nat) : wordN v (k + 1) = wordN v k ++ [wbyte v k] := by unfold wordN; rw [List.range_succ, List.map_append]; rfl
theorem wordN_len (v : Int) (k : Nat) : (wordN v k).length = k := by simp [wordN]
theorem wordI_len (v : Int) : (pkWordI v).length = 8 := wordN_len v 8
theorem wbyte_bd (v : Int) (i : Nat) : 0 ≤ wbyte v i ∧ wbyte v i < 256 := by unfold wbyte; omega
theorem wordN_b8 (v : Int) (k : Nat) : B.B8 (wordN v k) := by
  intro y hy
  obtain ⟨j, _, rfl⟩ := List.mem_map.1 hy
  exact wbyte_bd v j
theorem bodyI_snoc (z : List Int) (v : Int) : bodyI (z ++ [v]) = bodyI z ++ pkWordI v := by simp [bodyI]
theorem bodyI_take (z : List Int) (k : Nat) (h : k < z.length) : bodyI (z.take (k + 1)) = bodyI (z.take k) ++ pkWordI (z[k]?.getD 0) := by
  rw [List.take_succ_eq_append_getElem h, bodyI_snoc]; simp [h]
theorem bodyI_len : ∀ z : List Int, (bodyI z).length = 8 * z.length
  | [] => rfl
  | v :: z => by
    have : bodyI (v :: z) = pkWordI v ++ bodyI z := by simp [bodyI]
    rw [this, List.length_append, wordI_len, bodyI_len z]; simp; omega
theorem bodyI_b8 (z : List Int) : B.B8 (bodyI z) := by
  intro y hy
  obtain ⟨v, _, h⟩ := List.mem_flatMap.1 hy
  exact wordN_b8 v 8 y h
theorem headI_b8 (x : Pk) : B.B8 (headI x) := by
  intro y hy
  simp only [headI, List.mem_cons, List.not_mem_nil, or_false] at hy
  rcases hy with rfl | rfl | rfl | rfl | rfl | rfl | rfl | rfl | rfl | rfl
  case inr.inr.inr.inr.inr.inr.inr.inr.inl => have := flI_bd x.fl; omega
  all_goals omega
theorem headI_len (x : Pk) : (headI x).length = 10 := rfl
theorem packI_b8 (x : Pk) : B.B8 (packI x) := B.B8_append (headI_b8 x) (bodyI_b8 x.z)
theorem packI_len (x : Pk) : (packI x).length = 10 + 8 * x.z.length := by rw [packI, List.length_append, headI_len, bodyI_len]
end Go.Proofs.Ytgeiagndpfdnlaa
