/- The walk of PlanLines. No condition. -/
import Derived.Test.YtpagdfmajeodiaaCfg
namespace Go.Proofs.Ytpagdfmajeodiaa
open Go.RowKit
set_option linter.unusedVariables false

/-- One address behind another. -/
theorem lines_step {L K k : Nat} (hK : 1 ≤ K) (h : k + 1 < L * K) :
    (lineI L K ((k : Int) + 1) = lineI L K k ∧ wordI L K ((k : Int) + 1) = wordI L K k + 1 ∨ lineI L K ((k : Int) + 1) = lineI L K k + 1 ∧ wordI L K ((k : Int) + 1) = 0 ∧ wordI L K k = (K : Int) - 1) ∧ 0 ≤ lineI L K k ∧ lineI L K k ≤ k ∧ 0 ≤ wordI L K k ∧ wordI L K k < K := by
  have hc : ((L * K : Nat) : Int) = (L : Int) * (K : Int) := Int.natCast_mul L K
  have a0 : isA L K (k : Int) = true := isA_mk (by omega) (by omega)
  have a1 : isA L K ((k : Int) + 1) = true := isA_mk (by omega) (by omega)
  unfold lineI wordI
  rw [a0, a1]
  simp only [if_true]
  have d0 := Int.emod_add_mul_ediv (k : Int) K
  have m0 := Int.emod_nonneg (k : Int) (show (K : Int) ≠ 0 by omega)
  have m1 := Int.emod_lt_of_pos (k : Int) (show (0 : Int) < K by omega)
  have q0 : 0 ≤ (k : Int) / K := Int.ediv_nonneg (by omega) (by omega)
  have q1 : (k : Int) / K ≤ k := Int.ediv_le_self _ (by omega)
  refine ⟨?_, q0, q1, m0, m1⟩
  by_cases he : (k : Int) % K = (K : Int) - 1
  · right
    have e : (k : Int) + 1 = K * ((k : Int) / K + 1) := by rw [Int.mul_add, Int.mul_one]; omega
    refine ⟨?_, ?_, he⟩
    · rw [e, Int.mul_ediv_cancel_left _ (by omega)]
    · rw [e, Int.mul_emod_right]
  · left
    have e : (k : Int) + 1 = ((k : Int) % K + 1) + K * ((k : Int) / K) := by omega
    have f : ((k : Int) % K + 1) % K = (k : Int) % K + 1 := Int.emod_eq_of_lt (by omega) (by omega)
    have f2 : ((k : Int) % K + 1) / K = 0 := Int.ediv_eq_zero_of_lt (by omega) (by omega)
    refine ⟨?_, ?_⟩
    · conv => lhs; rw [e]
      rw [Int.add_mul_ediv_left _ _ (show (K : Int) ≠ 0 by omega), f2]; omega
    · conv => lhs; rw [e]
      rw [Int.add_mul_emod_self_left, f]

/-- Lines go round. -/
theorem round_step {x m : Int} (hx : 0 ≤ x) (hm : 1 ≤ m) : ∃ A B : Int, remI x m = A ∧ remI (x + 1) m = B ∧ remI (x + m) m = A ∧ (A + 1) % m = B ∧ (A + 1).tmod m = B ∧ 0 ≤ A ∧ A < m ∧ 0 ≤ B := by
  have e1 : remI x m = x % m := remI_pos hx
  have e2 : remI (x + 1) m = (x + 1) % m := remI_pos (by omega)
  have e3 : remI (x + m) m = x % m := by rw [remI_pos (by omega), Int.add_emod_right]
  have m0 := Int.emod_nonneg x (show m ≠ 0 by omega)
  have m1 := Int.emod_lt_of_pos x (show 0 < m by omega)
  have e4 : (x % m + 1) % m = (x + 1) % m := by rw [Int.emod_add_emod]
  refine ⟨x % m, (x + 1) % m, e1, e2, e3, e4, ?_, m0, m1, Int.emod_nonneg _ (by omega)⟩
  rw [Int.tmod_eq_emod_of_nonneg (by omega), e4]

set_option maxRecDepth 20000 in
set_option maxHeartbeats 1000000 in
theorem planLines_walk (w : World) (v : Value) (hv : IsSetup w v) (x : Int) :
    Calls Try.prog 8 #[v, .int .i64 x] w fun e w' => e = .returned (.bool true) ∧ Below w.heap.size w w' := by
  obtain ⟨n, l, k, s, y, o, i, a0, n0, q0, z0, a1, n1, q1, z1, a2, n2, q2, z2, a3, n3, q3, z3, a4, n4, q4, z4, rfl, h0, h1, h2, h3, h4⟩ := hv
  clear h1 h2 h3 h4
  unfold setup
  go_enter Try.func8, Try.ntmps8
  go_wp2_with (go_at_call 12; refine (config_c _ _ _ _ _ _ _ _ _ _ _ _ _ _ z0 _ (h0.below (by exact ba (Below.refl _ _)))).mono ?_; rintro e w1 ⟨N, L, K, S, Y, O, I, zi, av, nv, cv, rfl, hcf, hnv, hown, hb1⟩; unfold cfg)
  have hbw := ba (o := .cells #[.int .i64 (N : Int), .int .i64 (L : Int), .int .i64 (K : Int), .int .i64 (S : Int), .int .i64 (Y : Int), .int .i64 (O : Int), .int .i64 (I : Int), .slice av nv cv] 25) (next (ba (Below.refl _ _)) hb1)
  have hcb := CB.made w1 N L K S Y O I (.slice av nv cv)
  generalize w1.alloc (.cells #[.int .i64 (N : Int), .int .i64 (L : Int), .int .i64 (K : Int), .int .i64 (S : Int), .int .i64 (Y : Int), .int .i64 (O : Int), .int .i64 (I : Int), .slice av nv cv] 25) = W at *
  generalize w1.heap.size = g at *
  obtain ⟨N0, N1, L0, L1, K0, K1, S0, S1, Y0, Y1, O0, O1, I0, I1⟩ := hcf.bd
  obtain ⟨p0, p2, p3⟩ := mul_bd L0 L1 K0 K1
  clear hcf hown hb1 h0
  have HP : Hid (((L * K : Nat) : Int) = (L : Int) * (K : Int)) := Int.natCast_mul L K
  go_loopw [6] (fun i wr => ∃ j : Nat, i = .int .i64 j ∧ j ≤ L * K ∧ Below W.heap.size W wr) (fun i _ => L * K - (intOf i).toNat)
  case atStart => exact ⟨0, rfl, by omega, Below.refl _ _⟩
  case round =>
    obtain ⟨j, rfl, hj, hbr⟩ := hrel
    obtain ⟨c0, c1, c2, c3, c4, c5, c6, c7, clt⟩ := hcb.below hbr
    by_cases hlt : j + 1 < L * K
    · obtain ⟨hstep, b0, b1, b2, b3⟩ := lines_step K0 hlt
      have hlt' : (j : Int) + 1 < (L : Int) * (K : Int) := by have := HP.out; omega
      rcases hstep with ⟨e1, e2⟩ | ⟨e1, e2, e3⟩
      · go_wp2_with (first
          | (go_at_call 15; refine (addrs_any _ _ _ _ _ _ _ _ _ (by omega) (by omega) (by omega) (by omega)).mono ?_; rintro e w2 ⟨rfl, hb2⟩; obtain ⟨hc2, hf2⟩ := bcell hb2)
          | (have mk := hb3; clear mk; go_at_call 18; refine (lineOf_any _ _ _ _ _ _ _ _ _ _ (by omega) (by omega) (by omega) (by omega)).mono ?_; rintro e w4 ⟨rfl, hb4x⟩; have hb4 := next hb3 hb4x; clear hb4x hc3 hf3; obtain ⟨hc4, hf4⟩ := bcell hb4)
          | (go_at_call 18; refine (lineOf_any _ _ _ _ _ _ _ _ _ _ (by omega) (by omega) (by omega) (by omega)).mono ?_; rintro e w3 ⟨rfl, hb3x⟩; have hb3 := next hb2 hb3x; clear hb3x hc2 hf2; obtain ⟨hc3, hf3⟩ := bcell hb3))
        go_roundw
        case rel => exact ⟨j + 1, by go_num, by omega, next hbr hb4⟩
        case measure => simp [intOf]; omega
      · go_wp2_with (first
          | (go_at_call 15; refine (addrs_any _ _ _ _ _ _ _ _ _ (by omega) (by omega) (by omega) (by omega)).mono ?_; rintro e w2 ⟨rfl, hb2⟩; obtain ⟨hc2, hf2⟩ := bcell hb2)
          | (have mk := hb3; clear mk; go_at_call 18; refine (lineOf_any _ _ _ _ _ _ _ _ _ _ (by omega) (by omega) (by omega) (by omega)).mono ?_; rintro e w4 ⟨rfl, hb4x⟩; have hb4 := next hb3 hb4x; clear hb4x hc3 hf3; obtain ⟨hc4, hf4⟩ := bcell hb4)
          | (go_at_call 18; refine (lineOf_any _ _ _ _ _ _ _ _ _ _ (by omega) (by omega) (by omega) (by omega)).mono ?_; rintro e w3 ⟨rfl, hb3x⟩; have hb3 := next hb2 hb3x; clear hb3x hc2 hf2; obtain ⟨hc3, hf3⟩ := bcell hb3))
        go_roundw
        case rel => exact ⟨j + 1, by go_num, by omega, next hbr hb4⟩
        case measure => simp [intOf]; omega
    · have hge : (L : Int) * (K : Int) ≤ (j : Int) + 1 := by have := HP.out; omega
      have x0 : 0 ≤ x % 1000 := Int.emod_nonneg _ (by omega)
      have x1 : x % 1000 < 1000 := Int.emod_lt_of_pos _ (by omega)
      go_wp2_with (first
        | (go_at_call 15; refine (addrs_any _ _ _ _ _ _ _ _ _ (by omega) (by omega) (by omega) (by omega)).mono ?_; rintro e w2 ⟨rfl, hb2⟩; obtain ⟨hc2, hf2⟩ := bcell hb2)
        | (go_at_call 9; refine (within_any _ _ _ (by omega) (by omega)).mono ?_; rintro e wx ⟨rfl, rfl⟩))
      obtain ⟨A, B, a1, a2, a3, a4, a5, a6, a7, a8⟩ := round_step (m := (N : Int)) x0 (by omega)
      obtain ⟨C, D, d1, d2, d3, d4, d5, d6, d7, d8⟩ := round_step (m := (S : Int)) x0 (by omega)
      have uc := @Up.cell
      have uf := @Up.frozen
      have clt2 : g < w2.heap.size := Nat.lt_of_lt_of_le clt hb2.size
      refine wp_region_up (by kernel_rfl) (by kernel_rfl) ?_
      repeat (go_big_quiet_step (first | (go_at_call 19; exact Calls.up_of (homeOf_any _ _ _ _ _ _ _ _ _ _ (by omega) (by omega))) | (go_at_call 20; exact Calls.up_of (setOf_any _ _ _ _ _ _ _ _ _ _ (by omega) (by omega)))))
      refine wpQuiet_nil ?_
      rintro _ ⟨u, rfl⟩
      have hbu := next (next hbr hb2) u.2
      obtain ⟨c0, c1, c2, c3, c4, c5, c6, c7, clt⟩ := hcb.below hbu
      clear uc uf a1 a2 a3 a4 a5 d1 d2 d3 d4 d5 clt2 hb2 hc2 hf2
      generalize u.1 = wu at *
      clear u
      have f1 : lineI L K (-1 - x % 1000) = -1 := by unfold lineI; rw [isA_not (.inl (by omega))]; rfl
      have f2 : lineI L K ((L : Int) * (K : Int) + x % 1000) = -1 := by unfold lineI; rw [isA_not (.inr (by omega))]; rfl
      have f3 : remI (-1 - x % 1000) N = -1 := remI_neg (by omega)
      have f4 : remI (-1) S = -1 := remI_neg (by omega)
      go_wp2_with (first
        | (go_at_call 18; refine (lineOf_any _ _ _ _ _ _ _ _ _ _ (by omega) (by omega) (by omega) (by omega)).mono ?_; rintro e w3 ⟨rfl, hb3⟩; obtain ⟨hc3, hf3⟩ := bcell hb3))
      have uc := @Up.cell
      have uf := @Up.frozen
      have clt3 : g < w3.heap.size := Nat.lt_of_lt_of_le clt hb3.size
      refine wp_region_up (by kernel_rfl) (by kernel_rfl) ?_
      repeat (go_big_quiet_step (first | (go_at_call 15; exact Calls.up_of (addrs_any _ _ _ _ _ _ _ _ _ (by omega) (by omega) (by omega) (by omega))) | (go_at_call 18; exact Calls.up_of (lineOf_any _ _ _ _ _ _ _ _ _ _ (by omega) (by omega) (by omega) (by omega)))))
      refine wpQuiet_nil ?_
      rintro _ ⟨u, rfl⟩
      have hbu2 := next (next hbu hb3) u.2
      obtain ⟨c0, c1, c2, c3, c4, c5, c6, c7, clt⟩ := hcb.below hbu2
      clear uc uf clt3 hb3 hc3 hf3
      generalize u.1 = wv at *
      clear u
      go_wp2_with (first
        | (go_at_call 19; refine (homeOf_any _ _ _ _ _ _ _ _ _ _ (by omega) (by omega)).mono ?_; rintro e w4 ⟨rfl, hb4⟩; obtain ⟨hc4, hf4⟩ := bcell hb4)
        | (go_at_call 20; refine (setOf_any _ _ _ _ _ _ _ _ _ _ (by omega) (by omega)).mono ?_; rintro e w5 ⟨rfl, hb5⟩)
        | (go_at_call 11; refine (wakes_any _).mono ?_; rintro e w6 ⟨rfl, hb6⟩))
      go_ret
      exact ⟨rfl, next hbw (next (next (next hbu2 hb4) hb5) hb6)⟩
end Go.Proofs.Ytpagdfmajeodiaa
