/- The example that each of chapter 8's laws looks at. Conditions: as each theorem states them. -/
import Derived.Test.YtfobgkkmbacfjaaCc6
import Derived.Test.YtfobgkkmbacfjaaEntC0
namespace Go.Proofs.Ytfobgkkmbacfjaa
open Go.RowKit Go.Maps
set_option linter.unusedVariables false
set_option maxRecDepth 20000

theorem Own.notM {w : World} {base : Nat} {a : Option Addr} {n cap : Nat} {l : List Int} {M : Nat → Prop} (h : Own w base (.slice a n cap) l) (hM : ∀ j, M j → j < base) : ∀ y : Addr, a = some y → ¬ M y.block := by
  intro y hy hm
  subst hy
  have := h.base y.block rfl
  have := hM _ hm
  omega
theorem sl_one (w : World) (x : Int) (t : TypeId) : Sl (w.alloc (.cells #[.int .i64 x] t)) (some ⟨w.heap.size, 0, none⟩) 1 1 [x] :=
  ⟨rfl, Nat.le_refl _, by unfold maxLen; omega, fun h => (by cases h), .inr ⟨_, 0, rfl, fun i hi => by
    simp at hi
    subst hi
    simp⟩⟩
theorem sl_ownN {w : World} {base n : Nat} {a : Option Addr} {cap : Nat} {l : List Int} (h : Own w base (.slice a n cap) l) (hn : l.length = n) : Sl w a n cap l := by
  obtain ⟨a', cap', e, hs⟩ := h.sl' hn
  injection e with e1 e2 e3
  subst e1 e3
  exact hs
@[reducible] def wk4 : En := ⟨-1, -1, 4, 0, false, [7]⟩
@[reducible] def wk5 : En := ⟨-1, -1, 5, 0, false, []⟩
theorem wk_put4 : putR 1 1 0 [] wk4 = (0, 1, [{ wk4 with u := 1 }]) := by
  simp [putR, hasL, getK, fullL, inSet, setI, putK, insK, nOf]
theorem wk_put5 : putR 1 1 1 [{ wk4 with u := 1 }] wk5 = (5, 1, [{ wk4 with u := 1 }]) := by
  simp [putR, hasL, getK, fullL, inSet, setI, nOf]
theorem cwakes_any (w : World) : Calls Try.prog 28 #[] w fun e w' => e = .returned (.bool true) ∧ Below w.heap.size w w' := by
  have hN := cc_new 1 1 w (by unfold In64; omega)
  rw [show max (1 : Int) 1 = 1 by omega] at hN
  go_enter Try.func28, Try.ntmps28
  go_wp2_with (first
    | (go_at_call 48; refine (cc_len C6).mono ?_; rintro e w7 ⟨rfl, rfl⟩; simp only [List.length_singleton])
    | (go_at_call 13; have mk := own5; clear mk; refine (cc_put (C3.below b5) (by omega) wk5 a5 0 c5 hs5 (own5.notM (fun j hj => by have := C3.old j (.inl hj); omega)) (by omega) (⟨by decide, by decide⟩ : In64 5)).mono ?_; rw [wk_put5]; rintro e w6 ⟨rfl, k6, M6, D6, _, _, C6⟩)
    | (go_at_call 12; have mk := C3; clear mk; refine (enew_any 5 (-1) (-1) false none [] 0 0 _ (sl_nil _) (by omega)).mono ?_; rintro e w5 ⟨a5, c5, rfl, own5, b5⟩; have hs5 := sl_ownN own5 rfl)
    | (go_at_call 13; go_loud (refine (cc_put (((C1.below b1).below (ba (Below.refl _ _))).below b2) (by omega) wk4 a2 1 c2 hs2 (own2.notM (fun j hj => by have := C1.old j (.inl hj); have := b1.size; simp; omega)) (by omega) (⟨by decide, by decide⟩ : In64 4)).mono ?_; rw [wk_put4]; rintro e w3 ⟨rfl, k3, M3, D3, hM3, _, C3⟩))
    | (go_at_call 12; refine (enew_any 4 (-1) (-1) false (some ⟨w1.heap.size, 0, none⟩) [7] 1 1 _ (sl_one _ _ _) (by omega)).mono ?_; rintro e w2 ⟨a2, c2, rfl, own2, b2⟩; have hs2 := sl_ownN own2 rfl)
    | (go_at_call 49; refine (cc_lines C1 (by omega)).mono ?_; rintro e w1 ⟨v1, rfl, own1, b1⟩; obtain ⟨a1, c1, rfl, _⟩ := own1.sl; simp only [List.map_nil, List.length_nil])
    | (go_at_call 9; refine hN.mono ?_; rintro e w0 ⟨g, rfl, b0, C1⟩))
  have B2 : Below w.heap.size w w2 := next (ba (next b0 b1)) b2
  have B3 := k3.after B2 (fun j hj => hj.1)
  have hz := B2.size
  have B6 := k6.after (next B3 b5) (fun j hj => (hM3 j hj).elim (fun h => h.1) (fun h => by omega))
  go_ret
  exact ⟨rfl, B6⟩
end Go.Proofs.Ytfobgkkmbacfjaa
