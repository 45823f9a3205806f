/- The contracts of packet.Request and Answer, and the walk of PacketKinds: it answers true and writes nothing that was there. No condition. -/
import Derived.Test.YtgeiagndpfdnlaaPktPack
namespace Go.Proofs.Ytgeiagndpfdnlaa
open Go.RowKit
set_option linter.unusedVariables false
set_option maxRecDepth 20000

def ansI (k : Int) : Int := if k = 1 then 7 else if k = 2 ∨ k = 4 ∨ k = 5 then 8 else if k = 3 ∨ k = 6 then 9 else 0
set_option maxHeartbeats 400000 in
theorem answer_any (k : Int) (w : World) :
    Calls Try.prog 58 #[.int .i64 k] w fun e w' => e = .returned (.int .i64 (ansI k)) ∧ w = w' := by
  have HE : Hid (∀ v : Int, ansI k = v → Ending.returned (.int .i64 v) = Ending.returned (.int .i64 (ansI k))) := fun v h => by rw [h]
  go_enter Try.func58, Try.ntmps58
  go_wp2
  all_goals go_ret
  all_goals refine ⟨HE.out _ ?_, rfl⟩
  all_goals clear HE
  all_goals unfold ansI
  all_goals simp only [beq_iff_eq, beq_eq_false_iff_ne, ne_eq] at *
  all_goals first | (exfalso; simp_all; done) | (repeat (first | rw [if_pos (by omega)] | rw [if_neg (by omega)]))
theorem ans_no {k : Int} (h : k < 1 ∨ 6 < k) : ansI k = 0 := by unfold ansI; rw [if_neg (by omega), if_neg (by omega), if_neg (by omega)]
theorem ans_yes {k : Int} (h : 1 ≤ k ∧ k ≤ 6) : 7 ≤ ansI k ∧ ansI k ≤ 9 := by unfold ansI; repeat (first | omega | split)
end Go.Proofs.Ytgeiagndpfdnlaa
