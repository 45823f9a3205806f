/- What spoiling does to a list of bytes, as the walk spells it. No condition. -/
import Derived.Test.YtgeiagndpfdnlaaBSeal
namespace Go.Proofs.Ytgeiagndpfdnlaa.B
open Go.RowKit
set_option linter.unusedVariables false

/-- The byte x, turned at the place t of its list by the digit i of the mask: as the walk spells it. -/
def turnI (x mask : Int) (t i : Nat) : Int := bits .xor .u8 x (IntKind.u8.wrap (bits .and .u8 (mask / 2 ^ (15 - i) % 256) 1 * 2 ^ (7 - t % 8)))
def spStep (l : List Int) (bit mask : Int) (i : Nat) : List Int :=
  if 0 ≤ bit + i ∧ bit + i < 8 * l.length then l.set ((bit + i).toNat / 8) (turnI (l[(bit + i).toNat / 8]?.getD 0) mask (bit + i).toNat i) else l
def spN (l : List Int) (bit mask : Int) (k : Nat) : List Int := (List.range k).foldl (fun l i => spStep l bit mask i) l
def spoilI (l : List Int) (bit mask : Int) : List Int := spN l bit mask 16

theorem spN_zero (l : List Int) (bit mask : Int) : spN l bit mask 0 = l := rfl
theorem spN_succ (l : List Int) (bit mask : Int) (k : Nat) : spN l bit mask (k + 1) = spStep (spN l bit mask k) bit mask k := by
  unfold spN; rw [List.range_succ, List.foldl_append]; rfl
theorem spStep_len (l : List Int) (bit mask : Int) (i : Nat) : (spStep l bit mask i).length = l.length := by
  unfold spStep; split <;> simp
theorem spN_len (l : List Int) (bit mask : Int) : ∀ k, (spN l bit mask k).length = l.length
  | 0 => rfl
  | k + 1 => by rw [spN_succ, spStep_len, spN_len l bit mask k]
theorem spStep_in {l : List Int} {bit mask : Int} {i t : Nat} (h : bit + i = t) (ht : t < 8 * l.length) : spStep l bit mask i = l.set (t / 8) (turnI (l[t / 8]?.getD 0) mask t i) := by
  unfold spStep; rw [if_pos (by omega)]; simp [h]
theorem spStep_out {l : List Int} {bit mask : Int} {i : Nat} (h : bit + i < 0 ∨ 8 * l.length ≤ bit + i) : spStep l bit mask i = l := by
  unfold spStep; rw [if_neg (by omega)]
theorem spN_out {l : List Int} {bit mask : Int} (h : bit ≤ -16 ∨ 8 * l.length ≤ bit) : ∀ k, k ≤ 16 → spN l bit mask k = l
  | 0, _ => rfl
  | k + 1, hk => by
    rw [spN_succ, spN_out h k (by omega), spStep_out (by omega)]
theorem xor8_bd {a b : Int} (ha0 : 0 ≤ a) (ha1 : a < 256) (hb0 : 0 ≤ b) (hb1 : b < 256) : 0 ≤ bits .xor .u8 a b ∧ bits .xor .u8 a b < 256 := by
  rw [u8_xor a b ha0 ha1 hb0 hb1]
  have : a.toNat ^^^ b.toNat < 2 ^ 8 := Nat.xor_lt_two_pow (by omega) (by omega)
  omega
theorem turnI_bd {x : Int} (hx : 0 ≤ x ∧ x < 256) (mask : Int) (t i : Nat) : 0 ≤ turnI x mask t i ∧ turnI x mask t i < 256 := by
  have h : ∀ n : Int, 0 ≤ IntKind.u8.wrap n ∧ IntKind.u8.wrap n < 256 := fun n => by rw [IntKind.wrap_u8']; omega
  exact xor8_bd hx.1 hx.2 (h _).1 (h _).2
theorem spStep_b8 {l : List Int} (h : B8 l) (bit mask : Int) (i : Nat) : B8 (spStep l bit mask i) := by
  unfold spStep
  split
  · intro y hy
    rcases List.mem_or_eq_of_mem_set hy with h' | rfl
    · exact h y h'
    · exact turnI_bd (B8_get h _) _ _ _
  · exact h
theorem spN_b8 {l : List Int} (h : B8 l) (bit mask : Int) : ∀ k, B8 (spN l bit mask k)
  | 0 => h
  | k + 1 => by rw [spN_succ]; exact spStep_b8 (spN_b8 h bit mask k) _ _ _
theorem cells_set (l : List Int) (j : Nat) (x : Int) : (cells l).set j (.int .u8 x) = cells (l.set j x) := by simp [cells, List.map_set]

theorem own_some {w : World} {base n : Nat} {v : Value} {l : List Int} (h : Own w base v l) (hn : l.length = n) (h0 : 0 < n) : ∃ g cap, v = .slice (some ⟨g, 0, none⟩) n cap ∧ base ≤ g ∧ w.ownsRow base 5 1 (.slice (some ⟨g, 0, none⟩) n cap) n (cells l) := by
  subst hn
  have hh := h.1
  rcases h.1.2 with ⟨_, h1⟩ | ⟨g, cap, cur, rfl, hb, _⟩
  · omega
  · exact ⟨g, cap, rfl, hb, hh⟩

theorem Row.some {w : World} {a : Option Addr} {l : List Int} (h : Row w a l) (h0 : 0 < l.length) : ∃ b o, a = Option.some ⟨b, o, none⟩ ∧ ∀ i, i < l.length → w.cell? ⟨b, o + i, none⟩ = Option.some (.int .u8 (l[i]?.getD 0)) := by
  rcases h with rfl | h
  · simp at h0
  · exact h
theorem wrap_small (n : Int) (h0 : -4611686018427387904 ≤ n) (h1 : n ≤ 4611686018427387904) : IntKind.i64.wrap n = n := by
  rw [IntKind.wrap_i64]; omega

end Go.Proofs.Ytgeiagndpfdnlaa.B
