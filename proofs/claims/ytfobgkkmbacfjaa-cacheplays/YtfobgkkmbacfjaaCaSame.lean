/- Chapter 8's own helps: Ref (an entry as the document has it), SameEntry of two that are the same. Conditions: as each theorem states them. -/
import Derived.Test.YtfobgkkmbacfjaaEnt0
import Derived.Test.YtfobgkkmbacfjaaIntsSame
namespace Go.Proofs.Ytfobgkkmbacfjaa
open Go.RowKit
set_option linter.unusedVariables false
set_option maxRecDepth 20000

theorem ref_any (x : En) (a : Option Addr) (n cap : Nat) (w : World) :
    Calls Try.prog 15 #[x.val (.slice a n cap)] w fun e w' => e = .returned (x.val (.slice a n cap)) ∧ Below w.heap.size w w' := by
  go_enter Try.func15, Try.ntmps15
  go_wp2
  exact bodyPost_ret (v := x.val (.slice a n cap)) (by simp [results, Try.results15, go_sem, *]) rfl ⟨rfl, ba (ba (Below.refl _ _))⟩
set_option maxHeartbeats 400000 in
theorem sameEntry_any (x : En) (a b : Option Addr) (n c1 c2 : Nat) (w : World) (h1 : Sl w a n c1 x.z) (h2 : Sl w b n c2 x.z) :
    Calls Try.prog 18 #[x.val (.slice a n c1), x.val (.slice b n c2)] w fun e w' => e = .returned (.bool true) ∧ Below w.heap.size w w' := by
  go_enter Try.func18, Try.ntmps18
  go_wp2_with (go_at_call 33; refine (same_any _ _ _ _ _ _ _ _ _ (h1.below (ba (ba (Below.refl _ _)))) (h2.below (ba (ba (Below.refl _ _))))).mono ?_; rintro e w' ⟨rfl, kk, rfl⟩)
  go_ret
  exact ⟨rfl, next (ba (ba (Below.refl _ _))) (below_dn _ _)⟩
end Go.Proofs.Ytfobgkkmbacfjaa
