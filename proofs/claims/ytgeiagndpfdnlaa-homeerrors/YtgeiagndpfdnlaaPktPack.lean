/- The contracts of packet.appendWord, Pack and of the statements' wakes. Conditions: as each theorem states them. -/
import Derived.Test.YtgeiagndpfdnlaaPktHead
namespace Go.Proofs.Ytgeiagndpfdnlaa
open Go.RowKit
set_option linter.unusedVariables false
set_option maxRecDepth 20000

theorem cell_one' (w : World) (x : Int) : ∀ j u, (B.cells [x])[j]? = some u → (w.alloc (.cells #[.int .u8 x] 5)).cell? ((⟨w.heap.size, 0, none⟩ : Addr).add j) = some u := by
  intro j u hu
  obtain ⟨hj, rfl⟩ := B.cells_get hu
  rw [Addr.add_lit, Nat.zero_add, cell_of_row _ _ _ _ 5 (0, 0) (heap_alloc_new w _)]
  simp at hj
  match j, hj with
  | 0, _ => rfl

theorem sealI_len (l : List Int) : (B.sealI l).length = l.length + 2 := by simp [B.sealI]
theorem B.Own.low {w : World} {base base' : Nat} {v : Value} {l : List Int} (h : B.Own w base v l) (hb : base' ≤ base) : B.Own w base' v l := by
  refine ⟨⟨h.1.1, h.1.2.imp id ?_⟩, h.2⟩
  rintro ⟨g, cap, cur, e, hg, rest⟩
  exact ⟨g, cap, cur, e, Nat.le_trans hb hg, rest⟩

def lockPk : Pk := ⟨1, 0, 0, 0, 0, 0, 0, false, []⟩
theorem lock_right : lockPk.right = true := by decide
end Go.Proofs.Ytgeiagndpfdnlaa
