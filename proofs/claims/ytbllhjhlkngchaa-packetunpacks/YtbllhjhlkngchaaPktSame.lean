/- The contracts of slices.Equal over whole numbers and of packet.Same. Conditions: as each theorem states them. -/
import Derived.Test.YtbllhjhlkngchaaPktPack
namespace Go.Proofs.Ytbllhjhlkngchaa
open Go.RowKit
set_option linter.unusedVariables false

theorem equal_any (a b : Option Addr) (l m : List Int) (n1 n2 c1 c2 : Nat) (w : World) (h1 : Sl w a n1 c1 l) (h2 : Sl w b n2 c2 m) :
    Calls Try.prog 36 #[.slice a n1 c1, .slice b n2 c2] w fun e w' => e = .returned (.bool (decide (l = m))) ∧ ∃ k, w' = w.drewN k := by
  obtain ⟨hn1, hle1, hmx1, _, hr1⟩ := h1
  obtain ⟨hn2, hle2, hmx2, _, hr2⟩ := h2
  unfold maxLen at hmx1 hmx2
  subst hn1; subst hn2
  by_cases hne : l.length = m.length
  · rcases hr1 with rfl | ⟨b1, o1, rfl, hc1⟩
    · obtain rfl : m = [] := List.eq_nil_of_length_eq_zero hne.symm
      clear hr2 hne
      go_enter Try.func36, Try.ntmps36
      go_wp2
      refine wp_loop_rounds 1 ?_
      rw [rounds_succ]
      go_wp2
      go_ret
      exact ⟨rfl, 0, rfl⟩
    rcases hr2 with rfl | ⟨b2, o2, rfl, hc2⟩
    · obtain rfl : l = [] := List.eq_nil_of_length_eq_zero hne
      clear hc1 hne
      go_enter Try.func36, Try.ntmps36
      go_wp2
      refine wp_loop_rounds 1 ?_
      rw [rounds_succ]
      go_wp2
      go_ret
      exact ⟨rfl, 0, rfl⟩
    · have HN : Hid (l.length = m.length) := hne
      have hne' : ((l.length : Int) != (m.length : Int)) = false := by simp [hne]
      clear hne
      go_enter Try.func36, Try.ntmps36
      go_wp2
      go_loopw [13] (fun i wr => ∃ k : Nat, k ≤ l.length ∧ i = .int .i64 k ∧ l.take k = m.take k ∧ ∃ j, wr = w.drewN j) (fun i _ => l.length - (intOf i).toNat)
      case atStart => exact ⟨0, by omega, rfl, rfl, 0, rfl⟩
      case round =>
        obtain ⟨k, hk, rfl, heq, j, rfl⟩ := hrel
        have HE : Hid (l.take k = m.take k) := heq
        clear heq
        by_cases hlt : k < l.length
        · have x1 := hc1 k hlt
          have x2 := hc2 k (by have := HN.out; omega)
          have hlt2 : k < m.length := by have := HN.out; omega
          clear hc1 hc2
          obtain ⟨x, hx1⟩ : ∃ x, x = l[k]?.getD 0 := ⟨_, rfl⟩
          obtain ⟨y, hy1⟩ : ∃ y, y = m[k]?.getD 0 := ⟨_, rfl⟩
          rw [← hx1] at x1
          rw [← hy1] at x2
          have HX : Hid (x = l[k]?.getD 0) := hx1
          have HY : Hid (y = m[k]?.getD 0) := hy1
          clear hx1 hy1
          by_cases hx : x = y
          · have HXY : Hid (x = y) := hx
            have hx' : (x != y) = false := by simp [hx]
            clear hx
            go_wp2_with fail
            go_quiet (fail)
            go_wp2
            go_roundw
            case rel => exact ⟨k + 1, by omega, by go_num, take_same HE.out (by rw [← HX.out, ← HY.out, HXY.out]) hlt hlt2, _, rfl⟩
            case measure => simp [intOf]; omega
          · have HXY : Hid (¬ x = y) := hx
            have hx' : (x != y) = true := by simpa using hx
            clear hx
            go_wp2_with fail
            go_quiet (fail)
            go_wp2
            go_ret
            exact ⟨ret_bool (decide_eq_false (fun h => HXY.out (by rw [HX.out, HY.out, h]))).symm, _, by first | rfl | exact World.drewN_drewN ..⟩
        · go_wp2
          go_ret
          refine ⟨ret_bool (decide_eq_true ?_).symm, _, rfl⟩
          have := HE.out
          rw [List.take_of_length_le (by omega), List.take_of_length_le (by have := HN.out; omega)] at this
          exact this
  · have hne' : ((l.length : Int) != (m.length : Int)) = true := by simp; omega
    go_enter Try.func36, Try.ntmps36
    go_wp2
    go_ret
    exact ⟨ret_bool (decide_eq_false (fun h => hne (by rw [h]))).symm, 0, rfl⟩

def sameP (x y : Pk) : Bool := decide (x.k = y.k ∧ x.f = y.f ∧ x.t = y.t ∧ x.i = y.i ∧ x.l = y.l ∧ x.p = y.p ∧ x.s = y.s ∧ x.fl = y.fl ∧ x.z = y.z)
theorem sameP_self (x : Pk) : sameP x x = true := decide_eq_true ⟨rfl, rfl, rfl, rfl, rfl, rfl, rfl, rfl, rfl⟩
set_option maxHeartbeats 2000000 in
theorem pktSame_any (x y : Pk) (a b : Option Addr) (n m c d : Nat) (w : World) (hx : Sl w a n c x.z) (hy : Sl w b m d y.z) :
    Calls Try.prog 18 #[x.val (.slice a n c), y.val (.slice b m d)] w fun e w' => e = .returned (.bool (sameP x y)) ∧ Below w.heap.size w w' := by
  have HE : Hid (∀ v : Bool, sameP x y = v → Ending.returned (.bool v) = Ending.returned (.bool (sameP x y))) := fun v h => by rw [h]
  have H1 : Hid ((x.k != y.k) = true ∨ (x.f != y.f) = true ∨ (x.t != y.t) = true ∨ (x.i != y.i) = true ∨ (x.l != y.l) = true ∨ (x.p != y.p) = true ∨ (x.s != y.s) = true ∨ (x.fl != y.fl) = true → sameP x y = false) := fun h => decide_eq_false (fun ⟨h1, h2, h3, h4, h5, h6, h7, h8, _⟩ => by simp [h1, h2, h3, h4, h5, h6, h7, h8] at h)
  have H0 : Hid ((x.k != y.k) = false → (x.f != y.f) = false → (x.t != y.t) = false → (x.i != y.i) = false → (x.l != y.l) = false → (x.p != y.p) = false → (x.s != y.s) = false → (x.fl != y.fl) = false → sameP x y = decide (x.z = y.z)) := fun h1 h2 h3 h4 h5 h6 h7 h8 => by
    simp only [bne_eq_false_iff_eq] at h1 h2 h3 h4 h5 h6 h7 h8
    unfold sameP; simp [h1, h2, h3, h4, h5, h6, h7, h8]
  generalize sameP x y = sp at *
  unfold Pk.val
  go_enter Try.func18, Try.ntmps18
  go_wp2_with (go_at_call 36; refine (equal_any a b x.z y.z n m c d _ (hx.below (ba (ba (Below.refl _ _)))) (hy.below (ba (ba (Below.refl _ _))))).mono ?_; rintro e w1 ⟨rfl, k1, rfl⟩)
  all_goals go_ret
  all_goals first
    | (refine ⟨HE.out _ ?_, ba (ba (Below.refl _ _))⟩; clear HE)
    | (refine ⟨HE.out _ ?_, next (ba (ba (Below.refl _ _))) (below_dn _ k1)⟩; clear HE)
  all_goals first
    | exact H0.out (by assumption) (by assumption) (by assumption) (by assumption) (by assumption) (by assumption) (by assumption) (by assumption)
    | exact H1.out (.inl (by assumption))
    | exact H1.out (.inr (.inl (by assumption)))
    | exact H1.out (.inr (.inr (.inl (by assumption))))
    | exact H1.out (.inr (.inr (.inr (.inl (by assumption)))))
    | exact H1.out (.inr (.inr (.inr (.inr (.inl (by assumption))))))
    | exact H1.out (.inr (.inr (.inr (.inr (.inr (.inl (by assumption)))))))
    | exact H1.out (.inr (.inr (.inr (.inr (.inr (.inr (.inl (by assumption))))))))
    | exact H1.out (.inr (.inr (.inr (.inr (.inr (.inr (.inr (by assumption))))))))
    | (exfalso; clear H0 H1; simp_all; done)
end Go.Proofs.Ytbllhjhlkngchaa
