/- The contract of Same over whole numbers. Conditions: as stated. -/
import Derived.Test.YtgeiagndpfdnlaaInts
namespace Go.Proofs.Ytgeiagndpfdnlaa
open Go.RowKit
set_option linter.unusedVariables false

theorem same_any (a b : Option Addr) (l m : List Int) (n1 n2 c1 c2 : Nat) (w : World) (h1 : Sl w a n1 c1 l) (h2 : Sl w b n2 c2 m) :
    Calls Try.prog 24 #[.slice a n1 c1, .slice b n2 c2] w fun e w' => e = .returned (.bool (decide (l = m))) ∧ ∃ k, w' = w.drewN k := by
  obtain ⟨hn1, hle1, hmx1, _, hr1⟩ := h1
  obtain ⟨hn2, hle2, hmx2, _, hr2⟩ := h2
  unfold maxLen at hmx1 hmx2
  subst hn1; subst hn2
  by_cases hne : l.length = m.length
  · rcases hr1 with rfl | ⟨b1, o1, rfl, hc1⟩
    · obtain rfl : m = [] := List.eq_nil_of_length_eq_zero hne.symm
      clear hr2 hne
      go_enter Try.func24, Try.ntmps24
      go_wp2
      refine wp_loop_rounds 1 ?_
      rw [rounds_succ]
      go_wp2
      go_ret
      exact ⟨rfl, 0, rfl⟩
    rcases hr2 with rfl | ⟨b2, o2, rfl, hc2⟩
    · obtain rfl : l = [] := List.eq_nil_of_length_eq_zero hne
      clear hc1 hne
      go_enter Try.func24, Try.ntmps24
      go_wp2
      refine wp_loop_rounds 1 ?_
      rw [rounds_succ]
      go_wp2
      go_ret
      exact ⟨rfl, 0, rfl⟩
    · have HN : Hid (l.length = m.length) := hne
      have hne' : ((l.length : Int) != (m.length : Int)) = false := by simp [hne]
      clear hne
      go_enter Try.func24, Try.ntmps24
      go_wp2
      go_loopw [5] (fun i wr => ∃ k : Nat, k ≤ l.length ∧ i = .int .i64 k ∧ l.take k = m.take k ∧ ∃ j, wr = w.drewN j) (fun i _ => l.length - (intOf i).toNat)
      case atStart => exact ⟨0, by omega, rfl, rfl, 0, rfl⟩
      case round =>
        obtain ⟨k, hk, rfl, heq, j, rfl⟩ := hrel
        have HE : Hid (l.take k = m.take k) := heq
        clear heq
        by_cases hlt : k < l.length
        · have x1 := hc1 k hlt
          have x2 := hc2 k (by have := HN.out; omega)
          have hlt2 : k < m.length := by have := HN.out; omega
          clear hc1 hc2
          obtain ⟨x, hx1⟩ : ∃ x, x = l[k]?.getD 0 := ⟨_, rfl⟩
          obtain ⟨y, hy1⟩ : ∃ y, y = m[k]?.getD 0 := ⟨_, rfl⟩
          rw [← hx1] at x1
          rw [← hy1] at x2
          have HX : Hid (x = l[k]?.getD 0) := hx1
          have HY : Hid (y = m[k]?.getD 0) := hy1
          clear hx1 hy1
          by_cases hx : x = y
          · have HXY : Hid (x = y) := hx
            have hx' : (x != y) = false := by simp [hx]
            clear hx
            go_wp2_with fail
            go_quiet (fail)
            go_wp2
            go_roundw
            case rel => exact ⟨k + 1, by omega, by go_num, take_same HE.out (by rw [← HX.out, ← HY.out, HXY.out]) hlt hlt2, _, rfl⟩
            case measure => simp [intOf]; omega
          · have HXY : Hid (¬ x = y) := hx
            have hx' : (x != y) = true := by simpa using hx
            clear hx
            go_wp2_with fail
            go_quiet (fail)
            go_wp2
            go_ret
            exact ⟨ret_bool (decide_eq_false (fun h => HXY.out (by rw [HX.out, HY.out, h]))).symm, _, by first | rfl | exact World.drewN_drewN ..⟩
        · go_wp2
          go_ret
          refine ⟨ret_bool (decide_eq_true ?_).symm, _, rfl⟩
          have := HE.out
          rw [List.take_of_length_le (by omega), List.take_of_length_le (by have := HN.out; omega)] at this
          exact this
  · have hne' : ((l.length : Int) != (m.length : Int)) = true := by simp; omega
    go_enter Try.func24, Try.ntmps24
    go_wp2
    go_ret
    exact ⟨ret_bool (decide_eq_false (fun h => hne (by rw [h]))).symm, 0, rfl⟩
end Go.Proofs.Ytgeiagndpfdnlaa
