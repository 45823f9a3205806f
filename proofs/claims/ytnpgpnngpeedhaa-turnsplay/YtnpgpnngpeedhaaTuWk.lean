/- The example that each of chapter 10's laws looks at. Conditions: as each theorem states them. -/
import Derived.Test.YtnpgpnngpeedhaaTuOn
namespace Go.Proofs.Ytnpgpnngpeedhaa
open Go.RowKit Go.Maps
set_option linter.unusedVariables false
set_option maxRecDepth 20000

theorem twakes_any (w : World) : Calls Try.prog 15 #[] w fun e w' => e = .returned (.bool true) ∧ Below w.heap.size w w' := by
  have i3 : In64 3 := by unfold In64; omega
  go_enter Try.func15, Try.ntmps15
  go_wp2_with (first
    | (have mk := T2; clear mk; go_at_call 12; refine (to_owner T2 i3).mono ?_; rintro e w3 ⟨rfl, rfl⟩; rw [upd_at])
    | (have mk := T2; clear mk; go_at_call 9; refine (to_ask_wait T2 0 i3 (by omega) (by omega) (.inl (by rw [upd_at]; omega)) (by omega)).mono ?_; rintro e w4 ⟨rfl, k4, T4⟩)
    | (have mk := T1; clear mk; go_at_call 9; refine (to_ask_own T1 0 i3 (by omega) (by omega) rfl rfl (by omega)).mono ?_; rintro e w2 ⟨rfl, k2, T2⟩)
    | (have mk := T1; clear mk; go_at_call 12; refine (to_owner T1 i3).mono ?_; rintro e w3 ⟨rfl, rfl⟩)
    | (go_at_call 7; refine (to_new (X := fun _ => False) (Below.refl _ w) (fun j hj => hj.elim)).mono ?_; rintro e w1 ⟨g, rfl, b1, T1⟩))
  go_ret
  exact ⟨rfl, T4.bel⟩
end Go.Proofs.Ytnpgpnngpeedhaa
