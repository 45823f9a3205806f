/- The document's example of chapter 7 (wakes). No condition. -/
import Derived.Test.YtiebfciilpbkeaaEnt1
namespace Go.Proofs.Ytiebfciilpbkeaa
open Go.RowKit
set_option linter.unusedVariables false
set_option maxRecDepth 20000

theorem ewakes_any (w : World) : Calls Try.prog 13 #[] w fun e w' => e = .returned (.bool true) ∧ Below w.heap.size w w' := by
  go_enter Try.func13, Try.ntmps13
  go_wp2_with (first
    | (go_at_call 8; refine (enew_any 3 (-1) (-1) false none [] 0 0 _ (sl_nil _) (by omega)).mono ?_; rintro e w1 ⟨a1, c1, rfl, hown, hb1⟩; have B1 := Eb.made w1 ⟨-1, -1, 3, 0, false, []⟩ (.slice a1 0 c1))
    | (go_at_call 20; refine (only_any (-1) (-1) _).mono ?_; rintro e w2 ⟨rfl, hb2⟩; rw [decide_eq_true ⟨rfl, rfl⟩]; have B2 := B1.next hb2; obtain ⟨e0, e1, e2, _⟩ := B2.lit)
    | (go_at_call 19; refine (head_any (-1) (-1) _).mono ?_; rintro e w3 ⟨rfl, hb3⟩; rw [decide_eq_true rfl]; have B3 := B2.next hb3; obtain ⟨e0, e1, e2, _⟩ := B3.lit)
    | (go_at_call 18; refine (tail_any (-1) (-1) _).mono ?_; rintro e w4 ⟨rfl, hb4⟩; rw [decide_eq_true rfl]; have B4 := B3.next hb4; obtain ⟨e0, e1, e2, _⟩ := B4.lit))
  go_ret
  exact ⟨rfl, next hb1 (next (ba (Below.refl _ _)) (next hb2 (next hb3 hb4)))⟩
end Go.Proofs.Ytiebfciilpbkeaa
