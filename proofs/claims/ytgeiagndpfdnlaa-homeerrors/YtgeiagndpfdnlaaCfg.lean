/- The configuration of a setup, in numbers; its variable in memory. -/
import Derived.Test.YtgeiagndpfdnlaaSetup
namespace Go.Proofs.Ytgeiagndpfdnlaa
open Go.RowKit
set_option linter.unusedVariables false
set_option maxRecDepth 20000

/-- A configuration's variable in memory. -/
structure CB (w : World) (g : Nat) (N L K S Y O I : Nat) (t : Value) : Prop where
  c0 : w.cell? ⟨g, 0, none⟩ = some (.int .i64 (N : Int))
  c1 : w.cell? ⟨g, 1, none⟩ = some (.int .i64 (L : Int))
  c2 : w.cell? ⟨g, 2, none⟩ = some (.int .i64 (K : Int))
  c3 : w.cell? ⟨g, 3, none⟩ = some (.int .i64 (S : Int))
  c4 : w.cell? ⟨g, 4, none⟩ = some (.int .i64 (Y : Int))
  c5 : w.cell? ⟨g, 5, none⟩ = some (.int .i64 (O : Int))
  c6 : w.cell? ⟨g, 6, none⟩ = some (.int .i64 (I : Int))
  c7 : w.cell? ⟨g, 7, none⟩ = some t
  lt : g < w.heap.size
theorem CB.below {w w' : World} {g : Nat} {N L K S Y O I : Nat} {t : Value} (h : CB w g N L K S Y O I t) (hb : Below w.heap.size w w') : CB w' g N L K S Y O I t := by
  obtain ⟨hc, _⟩ := bcell hb
  exact ⟨by rw [hc _ _ h.lt]; exact h.c0, by rw [hc _ _ h.lt]; exact h.c1, by rw [hc _ _ h.lt]; exact h.c2, by rw [hc _ _ h.lt]; exact h.c3, by rw [hc _ _ h.lt]; exact h.c4, by rw [hc _ _ h.lt]; exact h.c5, by rw [hc _ _ h.lt]; exact h.c6, by rw [hc _ _ h.lt]; exact h.c7, Nat.lt_of_lt_of_le h.lt hb.size⟩
theorem CB.made (w : World) (N L K S Y O I : Nat) (t : Value) : CB (w.alloc (.cells #[.int .i64 (N : Int), .int .i64 (L : Int), .int .i64 (K : Int), .int .i64 (S : Int), .int .i64 (Y : Int), .int .i64 (O : Int), .int .i64 (I : Int), t] 26)) w.heap.size N L K S Y O I t := by
  constructor <;> simp

/-- The numbers of a setup's configuration. -/
structure IsCfg (n l k s y o i : Int) (z : List Int) (N L K S Y O I : Nat) (zi : List Int) : Prop where
  eN : nd n 4 = N
  eL : nd l 4 = L
  eK : nd k 2 = K
  eS : nd s 2 = S
  eY : nd y 2 = Y
  eO : nd o 3 = O
  eI : nd i 3 = I
  ez : z.take (L * K) = zi
structure CfgB (N L K S Y O I : Nat) : Prop where
  N0 : 1 ≤ N
  N1 : N ≤ 4
  L0 : 1 ≤ L
  L1 : L ≤ 4
  K0 : 1 ≤ K
  K1 : K ≤ 2
  S0 : 1 ≤ S
  S1 : S ≤ 2
  Y0 : 1 ≤ Y
  Y1 : Y ≤ 2
  O0 : 1 ≤ O
  O1 : O ≤ 3
  I0 : 1 ≤ I
  I1 : I ≤ 3
theorem IsCfg.bd {n l k s y o i : Int} {z : List Int} {N L K S Y O I : Nat} {zi : List Int} (h : IsCfg n l k s y o i z N L K S Y O I zi) : CfgB N L K S Y O I := by
  obtain ⟨rfl, rfl, rfl, rfl, rfl, rfl, rfl, _⟩ := h
  exact ⟨(nd_lo n 4).resolve_right (by decide), nd_hi n 4 (by decide), (nd_lo l 4).resolve_right (by decide), nd_hi l 4 (by decide), (nd_lo k 2).resolve_right (by decide), nd_hi k 2 (by decide), (nd_lo s 2).resolve_right (by decide), nd_hi s 2 (by decide), (nd_lo y 2).resolve_right (by decide), nd_hi y 2 (by decide), (nd_lo o 3).resolve_right (by decide), nd_hi o 3 (by decide), (nd_lo i 3).resolve_right (by decide), nd_hi i 3 (by decide)⟩
theorem IsCfg.len {n l k s y o i : Int} {z : List Int} {N L K S Y O I : Nat} {zi : List Int} (h : IsCfg n l k s y o i z N L K S Y O I zi) : zi.length ≤ L * K := by
  obtain ⟨rfl, rfl, rfl, rfl, rfl, rfl, rfl, rfl⟩ := h
  simp; omega
/-- One setup, one configuration. -/
theorem IsCfg.one {n l k s y o i : Int} {z : List Int} {N L K S Y O I N' L' K' S' Y' O' I' : Nat} {zi zi' : List Int} (h : IsCfg n l k s y o i z N L K S Y O I zi) (h' : IsCfg n l k s y o i z N' L' K' S' Y' O' I' zi') :
    N = N' ∧ L = L' ∧ K = K' ∧ S = S' ∧ Y = Y' ∧ O = O' ∧ I = I' ∧ zi = zi' := by
  obtain ⟨rfl, rfl, rfl, rfl, rfl, rfl, rfl, rfl⟩ := h
  obtain ⟨rfl, rfl, rfl, rfl, rfl, rfl, rfl, rfl⟩ := h'
  exact ⟨rfl, rfl, rfl, rfl, rfl, rfl, rfl, rfl⟩
theorem config_c (n l k s y o i : Int) (a : Option Addr) (len cap : Nat) (wh ki ad va : Value) (z : List Int) (w : World) (hsl : Sl w a len cap z) :
    Calls Try.prog 7 #[setup n l k s y o i (.slice a len cap) wh ki ad va] w fun e w' => ∃ (N L K S Y O I : Nat) (zi : List Int) (av : Option Addr) (nv cv : Nat),
      e = .returned (cfg N L K S Y O I (.slice av nv cv)) ∧ IsCfg n l k s y o i z N L K S Y O I zi ∧ Hid (zi.length = nv) ∧ Own w' w.heap.size (.slice av nv cv) zi ∧ Below w.heap.size w w' := by
  refine (config_any n l k s y o i a len cap wh ki ad va z w hsl).mono ?_
  rintro e w' ⟨v, rfl, hown, hb⟩
  obtain ⟨av, cv, rfl, _⟩ := hown.sl
  exact ⟨_, _, _, _, _, _, _, _, av, _, cv, rfl, ⟨rfl, rfl, rfl, rfl, rfl, rfl, rfl, rfl⟩, rfl, hown, hb⟩
theorem own_sl {w : World} {base n cap : Nat} {a : Option Addr} {l : List Int} (h : Own w base (.slice a n cap) l) : Sl w a n cap l := by
  obtain ⟨a', cap', e, hs⟩ := h.sl
  simp at e
  obtain ⟨rfl, rfl, rfl⟩ := e
  exact hs
theorem mul_bd {L K : Nat} (L0 : 1 ≤ L) (L1 : L ≤ 4) (K0 : 1 ≤ K) (K1 : K ≤ 2) : (1 : Int) ≤ (L : Int) * (K : Int) ∧ (L : Int) * (K : Int) ≤ 8 ∧ L * K ≤ 8 := by
  refine ⟨?_, ?_, ?_⟩
  · have := Int.mul_le_mul (show (1 : Int) ≤ (L : Int) by omega) (show (1 : Int) ≤ (K : Int) by omega) (by omega) (by omega); simpa using this
  · have := Int.mul_le_mul (show (L : Int) ≤ 4 by omega) (show (K : Int) ≤ 2 by omega) (by omega) (by omega); simpa using this
  · have := Nat.mul_le_mul (show L ≤ 4 by omega) (show K ≤ 2 by omega); simpa using this
end Go.Proofs.Ytgeiagndpfdnlaa
