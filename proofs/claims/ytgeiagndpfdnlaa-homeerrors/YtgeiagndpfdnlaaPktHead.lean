/- The contract of packet.head: a packet's first ten bytes, in new memory. Conditions: as stated. -/
import Derived.Test.YtgeiagndpfdnlaaPkt1
namespace Go.Proofs.Ytgeiagndpfdnlaa
open Go.RowKit
set_option linter.unusedVariables false

theorem hd_own {w : World} {base : Nat} (m : List Int) (h8 : B.B8 m) (hm : m.length ≤ maxLen) (g : Nat) (hb : base ≤ g) (h : w.heap[g]? = some (.cells (B.cells m).toArray 5 (0, 0))) : B.Own w base (.slice (some ⟨g, 0, none⟩) m.length m.length) m :=
  ⟨⟨by simp [B.cells], Or.inr ⟨g, m.length, (B.cells m).toArray, rfl, hb, h, Nat.le_refl _, hm, by simp [B.cells], by rw [Nat.mul_one]; exact List.take_of_length_le (by simp [B.cells])⟩⟩, h8⟩

end Go.Proofs.Ytgeiagndpfdnlaa
