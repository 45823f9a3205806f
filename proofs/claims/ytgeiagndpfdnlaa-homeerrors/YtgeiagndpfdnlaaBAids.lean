/- Small facts of bytes that several texts share. Conditions: as each theorem states them. -/
import Derived.Test.YtgeiagndpfdnlaaBMath3
import Derived.Deep.OwnRows
import Derived.BigRegion
import Derived.Deep.DeepCutAuto
import Derived.Deep.DrawnRows
namespace Go.Proofs.Ytgeiagndpfdnlaa.B
open Go.RowKit
set_option linter.unusedVariables false

theorem own_snoc {w : World} {base : Nat} {v : Value} {l : List Int} {x : Int} (h : w.ownsRow base 5 1 v (l.length + 1) (cells l ++ cells [x])) (h8 : B8 l) (h0 : 0 ≤ x) (h1 : x < 256) : Own w base v (l ++ [x]) := by
  refine ⟨by simpa [cells] using h, B8_append h8 ?_⟩
  intro y hy; simp at hy; subst hy; exact ⟨h0, h1⟩

theorem nextB {w0 w1 w2 : World} (h : Below w0.heap.size w0 w1) (h2 : Below w1.heap.size w1 w2) : Below w0.heap.size w0 w2 := h.trans (h2.mono h.size)

theorem openI_seal {l : List Int} (h8 : B8 l) : openI (sealI l) = some l := by
  have b := sumI_bd l h8
  have hl : (sealI l).length = l.length + 2 := by simp [sealI]
  have ht : (sealI l).take l.length = l := by simp [sealI]
  have g0 : (sealI l)[l.length]?.getD 0 = sumI l / 256 := by simp [sealI]
  have g1 : (sealI l)[l.length + 1]?.getD 0 = sumI l % 256 := by simp [sealI]
  have := openI_yes hl (by rw [ht, g0, g1]; omega)
  rw [this, ht]
theorem sum_seal {l : List Int} (h8 : B8 l) : sumI (sealI l) = 0 := by
  have b := sumI_bd l h8
  exact (sum_whole l _ _ h8 (by omega) (by omega) (by omega) (by omega)).2 (by omega)

theorem wf_u16 {n : Int} (h : (Lit.int .u16 n).wf = true) : 0 ≤ n ∧ n < 65536 := by
  simp [Lit.wf, IntKind.min, IntKind.max, IntKind.signed, IntKind.bits] at h; omega
theorem openI_sum {l : List Int} (h8 : B8 l) (h : ¬ sumI l = 0) : openI l = none := by
  by_cases h2 : l.length < 2
  · exact openI_short h2
  · obtain ⟨m, hm⟩ : ∃ m, l.length = m + 2 := ⟨l.length - 2, by omega⟩
    exact openI_no hm fun e => h ((sum_whole' hm h8).2 e)

theorem Own.alloc {w : World} {base : Nat} {v : Value} {l : List Int} (h : Own w base v l) (o : Obj) : Own (w.alloc o) base v l := ⟨h.1.alloc o, h.2⟩
theorem own_at {w : World} {base n cap : Nat} {a : Option Addr} {l : List Int} (h : Own w base (.slice a n cap) l) (hn : l.length = n) : Sl w a n cap l := by
  obtain ⟨a', cap', e, s⟩ := h.sl' hn
  simp at e
  obtain ⟨rfl, rfl⟩ := e
  exact s
theorem Sl.same {w w' : World} {a : Option Addr} {n cap : Nat} {l : List Int} (h : Sl w a n cap l) (hh : w'.heap = w.heap) : Sl w' a n cap l := by
  refine ⟨h.len, h.le, h.max, h.nil, h.b8, ?_⟩
  rcases h.row with rfl | ⟨b, o, rfl, hc⟩
  · exact Or.inl rfl
  · exact Or.inr ⟨b, o, rfl, fun i hi => by rw [← hc i hi]; exact World.cell?_of_block (by rw [hh])⟩
end Go.Proofs.Ytgeiagndpfdnlaa.B
