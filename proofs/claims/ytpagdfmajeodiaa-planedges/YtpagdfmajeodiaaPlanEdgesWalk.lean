/- The walk of PlanEdges. No condition. -/
import Derived.Test.YtpagdfmajeodiaaPlanWalks
import Derived.Deep.OwnRows
namespace Go.Proofs.Ytpagdfmajeodiaa
open Go.RowKit
set_option linter.unusedVariables false

theorem edge_in {m x : Int} (h0 : 1 ≤ x - 1) (h1 : x - 1 ≤ m) : inB m (x - 1) = true := by unfold inB; rw [decide_eq_true h0, decide_eq_true h1]; rfl
theorem edge_lo {m x : Int} (h0 : x - 1 < 1) : inB m (x - 1) = false := by unfold inB; rw [decide_eq_false (by omega)]; rfl
theorem edge_hi {m x : Int} (h1 : m < x - 1) : inB m (x - 1) = false := by unfold inB; rw [decide_eq_false (p := x - 1 ≤ m) (by omega)]; simp
theorem make_six (w : World) : (Instr.makeSlice 23 (.int .i64 6) (.int .i64 6)).run Try.prog w = .ok (.slice (some ⟨w.heap.size, 0, none⟩) 6 6) (w.alloc (.cells (madeCells #[.int .i64 0] 6) 3)) :=
  run_make_row' (P := Try.prog) 23 3 (.int .i64 0) 8 Try.underlying23 Try.infoInt rfl .i64 .i64 6 (by omega) (by omega) w
theorem make_seven (w : World) : (Instr.makeSlice 23 (.int .i64 7) (.int .i64 7)).run Try.prog w = .ok (.slice (some ⟨w.heap.size, 0, none⟩) 7 7) (w.alloc (.cells (madeCells #[.int .i64 0] 7) 3)) :=
  run_make_row' (P := Try.prog) 23 3 (.int .i64 0) 8 Try.underlying23 Try.infoInt rfl .i64 .i64 7 (by omega) (by omega) w
theorem chk_six : chk 1 2 3 1 1 1 1 6 = true := by decide
theorem chk_seven : chk 1 2 3 1 1 1 1 7 = false := by decide
theorem edge_y0 {x : Int} (h : inB 6 x = true) : chk x 1 1 1 1 1 1 0 = true := by
  have h2 := inB_of h
  unfold chk; rw [h]; simp [inB]
theorem edge_n0 {x : Int} (h : inB 6 x = false) : chk x 1 1 1 1 1 1 0 = false := by unfold chk; rw [h]; simp
theorem edge_y1 {x : Int} (h : inB 8 x = true) : chk 1 x 1 1 1 1 1 0 = true := by
  have h2 := inB_of h
  unfold chk; rw [h]; simp [inB]; omega
theorem edge_n1 {x : Int} (h : inB 8 x = false) : chk 1 x 1 1 1 1 1 0 = false := by unfold chk; rw [h]; simp
theorem edge_y2 {x : Int} (h : inB 4 x = true) : chk 1 1 x 1 1 1 1 0 = true := by
  have h2 := inB_of h
  unfold chk; rw [h]; simp [inB]; omega
theorem edge_n2 {x : Int} (h : inB 4 x = false) : chk 1 1 x 1 1 1 1 0 = false := by unfold chk; rw [h]; simp
theorem edge_y3 {x : Int} (h : inB 4 x = true) : chk 1 1 1 x 1 1 1 0 = true := by
  have h2 := inB_of h
  unfold chk; rw [h]; simp [inB]
theorem edge_n3 {x : Int} (h : inB 4 x = false) : chk 1 1 1 x 1 1 1 0 = false := by unfold chk; rw [h]; simp
theorem edge_y4 {x : Int} (h : inB 3 x = true) : chk 1 1 1 1 x 1 1 0 = true := by
  have h2 := inB_of h
  unfold chk; rw [h]; simp [inB]
theorem edge_n4 {x : Int} (h : inB 3 x = false) : chk 1 1 1 1 x 1 1 0 = false := by unfold chk; rw [h]; simp
theorem edge_y5 {x : Int} (h : inB 8 x = true) : chk 1 1 1 1 1 x 1 0 = true := by
  have h2 := inB_of h
  unfold chk; rw [h]; simp [inB]
theorem edge_n5 {x : Int} (h : inB 8 x = false) : chk 1 1 1 1 1 x 1 0 = false := by unfold chk; rw [h]; simp
theorem edge_y6 {x : Int} (h : inB 8 x = true) : chk 1 1 1 1 1 1 x 0 = true := by
  have h2 := inB_of h
  unfold chk; rw [h]; simp [inB]
theorem edge_n6 {x : Int} (h : inB 8 x = false) : chk 1 1 1 1 1 1 x 0 = false := by unfold chk; rw [h]; simp
set_option maxHeartbeats 3000000 in
theorem planEdges_0 (what n : Int) (w : World) (hw : what % 7 = 0) :
    Calls Try.prog 3 #[.int .i64 what, .int .i64 n] w fun e w' => e = .returned (.bool true) ∧ Below w.heap.size w w' := by
  have n0 : 0 ≤ n % 10 := Int.emod_nonneg _ (by omega)
  have n1 : n % 10 < 10 := Int.emod_lt_of_pos _ (by omega)
  by_cases h0 : n % 10 - 1 < 1
  · have HC : Hid (chk (n % 10 - 1) 1 1 1 1 1 1 0 = false) := edge_n0 (edge_lo h0)
    have m6 := make_six
    have m7 := make_seven
    go_enter Try.func3, Try.ntmps3
    go_wp2_with (first
      | (have mk := hb3; clear mk; go_at_call 11; refine (wakes_any _).mono ?_; rintro e w4 ⟨rfl, hb4⟩)
      | (have mk := hb2; clear mk; go_at_call 10; refine (check_any _ _ _ _ _ _ _ _ _ _ _).mono ?_; rintro e w3 ⟨rfl, hb3x⟩; have hb3 := next hb2 hb3x; clear hb3x hc2 hf2; obtain ⟨hc3, hf3⟩ := bcell hb3; simp only [chk_seven, errI])
      | (have mk := hb1; clear mk; go_at_call 10; refine (check_any _ _ _ _ _ _ _ _ _ _ _).mono ?_; rintro e w2 ⟨rfl, hb2x⟩; have hb2 := next hb1 hb2x; clear hb2x hc1 hf1; obtain ⟨hc2, hf2⟩ := bcell hb2; simp only [chk_six, errI])
      | (go_at_call 10; refine (check_any _ _ _ _ _ _ _ _ _ _ _).mono ?_; rintro e w1 ⟨rfl, hb1⟩; obtain ⟨hc1, hf1⟩ := bcell hb1; simp only [HC.out, errI])
      | (go_at_call 9; refine (within_any _ _ _ (by omega) (by omega)).mono ?_; rintro e wx ⟨rfl, rfl⟩))
    go_ret
    refine ⟨rfl, Below.trans ?_ ((next hb3 hb4).mono (by simp; omega))⟩
    repeat (first | exact Below.refl _ _ | refine ba ?_)
  by_cases h1 : 6 < n % 10 - 1
  · have HC : Hid (chk (n % 10 - 1) 1 1 1 1 1 1 0 = false) := edge_n0 (edge_hi h1)
    have m6 := make_six
    have m7 := make_seven
    go_enter Try.func3, Try.ntmps3
    go_wp2_with (first
      | (have mk := hb3; clear mk; go_at_call 11; refine (wakes_any _).mono ?_; rintro e w4 ⟨rfl, hb4⟩)
      | (have mk := hb2; clear mk; go_at_call 10; refine (check_any _ _ _ _ _ _ _ _ _ _ _).mono ?_; rintro e w3 ⟨rfl, hb3x⟩; have hb3 := next hb2 hb3x; clear hb3x hc2 hf2; obtain ⟨hc3, hf3⟩ := bcell hb3; simp only [chk_seven, errI])
      | (have mk := hb1; clear mk; go_at_call 10; refine (check_any _ _ _ _ _ _ _ _ _ _ _).mono ?_; rintro e w2 ⟨rfl, hb2x⟩; have hb2 := next hb1 hb2x; clear hb2x hc1 hf1; obtain ⟨hc2, hf2⟩ := bcell hb2; simp only [chk_six, errI])
      | (go_at_call 10; refine (check_any _ _ _ _ _ _ _ _ _ _ _).mono ?_; rintro e w1 ⟨rfl, hb1⟩; obtain ⟨hc1, hf1⟩ := bcell hb1; simp only [HC.out, errI])
      | (go_at_call 9; refine (within_any _ _ _ (by omega) (by omega)).mono ?_; rintro e wx ⟨rfl, rfl⟩))
    go_ret
    refine ⟨rfl, Below.trans ?_ ((next hb3 hb4).mono (by simp; omega))⟩
    repeat (first | exact Below.refl _ _ | refine ba ?_)
  · have HC : Hid (chk (n % 10 - 1) 1 1 1 1 1 1 0 = true) := edge_y0 (edge_in (by omega) (by omega))
    have m6 := make_six
    have m7 := make_seven
    go_enter Try.func3, Try.ntmps3
    go_wp2_with (first
      | (have mk := hb3; clear mk; go_at_call 11; refine (wakes_any _).mono ?_; rintro e w4 ⟨rfl, hb4⟩)
      | (have mk := hb2; clear mk; go_at_call 10; refine (check_any _ _ _ _ _ _ _ _ _ _ _).mono ?_; rintro e w3 ⟨rfl, hb3x⟩; have hb3 := next hb2 hb3x; clear hb3x hc2 hf2; obtain ⟨hc3, hf3⟩ := bcell hb3; simp only [chk_seven, errI])
      | (have mk := hb1; clear mk; go_at_call 10; refine (check_any _ _ _ _ _ _ _ _ _ _ _).mono ?_; rintro e w2 ⟨rfl, hb2x⟩; have hb2 := next hb1 hb2x; clear hb2x hc1 hf1; obtain ⟨hc2, hf2⟩ := bcell hb2; simp only [chk_six, errI])
      | (go_at_call 10; refine (check_any _ _ _ _ _ _ _ _ _ _ _).mono ?_; rintro e w1 ⟨rfl, hb1⟩; obtain ⟨hc1, hf1⟩ := bcell hb1; simp only [HC.out, errI])
      | (go_at_call 9; refine (within_any _ _ _ (by omega) (by omega)).mono ?_; rintro e wx ⟨rfl, rfl⟩))
    go_ret
    refine ⟨rfl, Below.trans ?_ ((next hb3 hb4).mono (by simp; omega))⟩
    repeat (first | exact Below.refl _ _ | refine ba ?_)
set_option maxHeartbeats 3000000 in
theorem planEdges_1 (what n : Int) (w : World) (hw : what % 7 = 1) :
    Calls Try.prog 3 #[.int .i64 what, .int .i64 n] w fun e w' => e = .returned (.bool true) ∧ Below w.heap.size w w' := by
  have n0 : 0 ≤ n % 12 := Int.emod_nonneg _ (by omega)
  have n1 : n % 12 < 12 := Int.emod_lt_of_pos _ (by omega)
  by_cases h0 : n % 12 - 1 < 1
  · have HC : Hid (chk 1 (n % 12 - 1) 1 1 1 1 1 0 = false) := edge_n1 (edge_lo h0)
    have m6 := make_six
    have m7 := make_seven
    go_enter Try.func3, Try.ntmps3
    go_wp2_with (first
      | (have mk := hb3; clear mk; go_at_call 11; refine (wakes_any _).mono ?_; rintro e w4 ⟨rfl, hb4⟩)
      | (have mk := hb2; clear mk; go_at_call 10; refine (check_any _ _ _ _ _ _ _ _ _ _ _).mono ?_; rintro e w3 ⟨rfl, hb3x⟩; have hb3 := next hb2 hb3x; clear hb3x hc2 hf2; obtain ⟨hc3, hf3⟩ := bcell hb3; simp only [chk_seven, errI])
      | (have mk := hb1; clear mk; go_at_call 10; refine (check_any _ _ _ _ _ _ _ _ _ _ _).mono ?_; rintro e w2 ⟨rfl, hb2x⟩; have hb2 := next hb1 hb2x; clear hb2x hc1 hf1; obtain ⟨hc2, hf2⟩ := bcell hb2; simp only [chk_six, errI])
      | (go_at_call 10; refine (check_any _ _ _ _ _ _ _ _ _ _ _).mono ?_; rintro e w1 ⟨rfl, hb1⟩; obtain ⟨hc1, hf1⟩ := bcell hb1; simp only [HC.out, errI])
      | (go_at_call 9; refine (within_any _ _ _ (by omega) (by omega)).mono ?_; rintro e wx ⟨rfl, rfl⟩))
    go_ret
    refine ⟨rfl, Below.trans ?_ ((next hb3 hb4).mono (by simp; omega))⟩
    repeat (first | exact Below.refl _ _ | refine ba ?_)
  by_cases h1 : 8 < n % 12 - 1
  · have HC : Hid (chk 1 (n % 12 - 1) 1 1 1 1 1 0 = false) := edge_n1 (edge_hi h1)
    have m6 := make_six
    have m7 := make_seven
    go_enter Try.func3, Try.ntmps3
    go_wp2_with (first
      | (have mk := hb3; clear mk; go_at_call 11; refine (wakes_any _).mono ?_; rintro e w4 ⟨rfl, hb4⟩)
      | (have mk := hb2; clear mk; go_at_call 10; refine (check_any _ _ _ _ _ _ _ _ _ _ _).mono ?_; rintro e w3 ⟨rfl, hb3x⟩; have hb3 := next hb2 hb3x; clear hb3x hc2 hf2; obtain ⟨hc3, hf3⟩ := bcell hb3; simp only [chk_seven, errI])
      | (have mk := hb1; clear mk; go_at_call 10; refine (check_any _ _ _ _ _ _ _ _ _ _ _).mono ?_; rintro e w2 ⟨rfl, hb2x⟩; have hb2 := next hb1 hb2x; clear hb2x hc1 hf1; obtain ⟨hc2, hf2⟩ := bcell hb2; simp only [chk_six, errI])
      | (go_at_call 10; refine (check_any _ _ _ _ _ _ _ _ _ _ _).mono ?_; rintro e w1 ⟨rfl, hb1⟩; obtain ⟨hc1, hf1⟩ := bcell hb1; simp only [HC.out, errI])
      | (go_at_call 9; refine (within_any _ _ _ (by omega) (by omega)).mono ?_; rintro e wx ⟨rfl, rfl⟩))
    go_ret
    refine ⟨rfl, Below.trans ?_ ((next hb3 hb4).mono (by simp; omega))⟩
    repeat (first | exact Below.refl _ _ | refine ba ?_)
  · have HC : Hid (chk 1 (n % 12 - 1) 1 1 1 1 1 0 = true) := edge_y1 (edge_in (by omega) (by omega))
    have m6 := make_six
    have m7 := make_seven
    go_enter Try.func3, Try.ntmps3
    go_wp2_with (first
      | (have mk := hb3; clear mk; go_at_call 11; refine (wakes_any _).mono ?_; rintro e w4 ⟨rfl, hb4⟩)
      | (have mk := hb2; clear mk; go_at_call 10; refine (check_any _ _ _ _ _ _ _ _ _ _ _).mono ?_; rintro e w3 ⟨rfl, hb3x⟩; have hb3 := next hb2 hb3x; clear hb3x hc2 hf2; obtain ⟨hc3, hf3⟩ := bcell hb3; simp only [chk_seven, errI])
      | (have mk := hb1; clear mk; go_at_call 10; refine (check_any _ _ _ _ _ _ _ _ _ _ _).mono ?_; rintro e w2 ⟨rfl, hb2x⟩; have hb2 := next hb1 hb2x; clear hb2x hc1 hf1; obtain ⟨hc2, hf2⟩ := bcell hb2; simp only [chk_six, errI])
      | (go_at_call 10; refine (check_any _ _ _ _ _ _ _ _ _ _ _).mono ?_; rintro e w1 ⟨rfl, hb1⟩; obtain ⟨hc1, hf1⟩ := bcell hb1; simp only [HC.out, errI])
      | (go_at_call 9; refine (within_any _ _ _ (by omega) (by omega)).mono ?_; rintro e wx ⟨rfl, rfl⟩))
    go_ret
    refine ⟨rfl, Below.trans ?_ ((next hb3 hb4).mono (by simp; omega))⟩
    repeat (first | exact Below.refl _ _ | refine ba ?_)
set_option maxHeartbeats 3000000 in
theorem planEdges_2 (what n : Int) (w : World) (hw : what % 7 = 2) :
    Calls Try.prog 3 #[.int .i64 what, .int .i64 n] w fun e w' => e = .returned (.bool true) ∧ Below w.heap.size w w' := by
  have n0 : 0 ≤ n % 8 := Int.emod_nonneg _ (by omega)
  have n1 : n % 8 < 8 := Int.emod_lt_of_pos _ (by omega)
  by_cases h0 : n % 8 - 1 < 1
  · have HC : Hid (chk 1 1 (n % 8 - 1) 1 1 1 1 0 = false) := edge_n2 (edge_lo h0)
    have m6 := make_six
    have m7 := make_seven
    go_enter Try.func3, Try.ntmps3
    go_wp2_with (first
      | (have mk := hb3; clear mk; go_at_call 11; refine (wakes_any _).mono ?_; rintro e w4 ⟨rfl, hb4⟩)
      | (have mk := hb2; clear mk; go_at_call 10; refine (check_any _ _ _ _ _ _ _ _ _ _ _).mono ?_; rintro e w3 ⟨rfl, hb3x⟩; have hb3 := next hb2 hb3x; clear hb3x hc2 hf2; obtain ⟨hc3, hf3⟩ := bcell hb3; simp only [chk_seven, errI])
      | (have mk := hb1; clear mk; go_at_call 10; refine (check_any _ _ _ _ _ _ _ _ _ _ _).mono ?_; rintro e w2 ⟨rfl, hb2x⟩; have hb2 := next hb1 hb2x; clear hb2x hc1 hf1; obtain ⟨hc2, hf2⟩ := bcell hb2; simp only [chk_six, errI])
      | (go_at_call 10; refine (check_any _ _ _ _ _ _ _ _ _ _ _).mono ?_; rintro e w1 ⟨rfl, hb1⟩; obtain ⟨hc1, hf1⟩ := bcell hb1; simp only [HC.out, errI])
      | (go_at_call 9; refine (within_any _ _ _ (by omega) (by omega)).mono ?_; rintro e wx ⟨rfl, rfl⟩))
    go_ret
    refine ⟨rfl, Below.trans ?_ ((next hb3 hb4).mono (by simp; omega))⟩
    repeat (first | exact Below.refl _ _ | refine ba ?_)
  by_cases h1 : 4 < n % 8 - 1
  · have HC : Hid (chk 1 1 (n % 8 - 1) 1 1 1 1 0 = false) := edge_n2 (edge_hi h1)
    have m6 := make_six
    have m7 := make_seven
    go_enter Try.func3, Try.ntmps3
    go_wp2_with (first
      | (have mk := hb3; clear mk; go_at_call 11; refine (wakes_any _).mono ?_; rintro e w4 ⟨rfl, hb4⟩)
      | (have mk := hb2; clear mk; go_at_call 10; refine (check_any _ _ _ _ _ _ _ _ _ _ _).mono ?_; rintro e w3 ⟨rfl, hb3x⟩; have hb3 := next hb2 hb3x; clear hb3x hc2 hf2; obtain ⟨hc3, hf3⟩ := bcell hb3; simp only [chk_seven, errI])
      | (have mk := hb1; clear mk; go_at_call 10; refine (check_any _ _ _ _ _ _ _ _ _ _ _).mono ?_; rintro e w2 ⟨rfl, hb2x⟩; have hb2 := next hb1 hb2x; clear hb2x hc1 hf1; obtain ⟨hc2, hf2⟩ := bcell hb2; simp only [chk_six, errI])
      | (go_at_call 10; refine (check_any _ _ _ _ _ _ _ _ _ _ _).mono ?_; rintro e w1 ⟨rfl, hb1⟩; obtain ⟨hc1, hf1⟩ := bcell hb1; simp only [HC.out, errI])
      | (go_at_call 9; refine (within_any _ _ _ (by omega) (by omega)).mono ?_; rintro e wx ⟨rfl, rfl⟩))
    go_ret
    refine ⟨rfl, Below.trans ?_ ((next hb3 hb4).mono (by simp; omega))⟩
    repeat (first | exact Below.refl _ _ | refine ba ?_)
  · have HC : Hid (chk 1 1 (n % 8 - 1) 1 1 1 1 0 = true) := edge_y2 (edge_in (by omega) (by omega))
    have m6 := make_six
    have m7 := make_seven
    go_enter Try.func3, Try.ntmps3
    go_wp2_with (first
      | (have mk := hb3; clear mk; go_at_call 11; refine (wakes_any _).mono ?_; rintro e w4 ⟨rfl, hb4⟩)
      | (have mk := hb2; clear mk; go_at_call 10; refine (check_any _ _ _ _ _ _ _ _ _ _ _).mono ?_; rintro e w3 ⟨rfl, hb3x⟩; have hb3 := next hb2 hb3x; clear hb3x hc2 hf2; obtain ⟨hc3, hf3⟩ := bcell hb3; simp only [chk_seven, errI])
      | (have mk := hb1; clear mk; go_at_call 10; refine (check_any _ _ _ _ _ _ _ _ _ _ _).mono ?_; rintro e w2 ⟨rfl, hb2x⟩; have hb2 := next hb1 hb2x; clear hb2x hc1 hf1; obtain ⟨hc2, hf2⟩ := bcell hb2; simp only [chk_six, errI])
      | (go_at_call 10; refine (check_any _ _ _ _ _ _ _ _ _ _ _).mono ?_; rintro e w1 ⟨rfl, hb1⟩; obtain ⟨hc1, hf1⟩ := bcell hb1; simp only [HC.out, errI])
      | (go_at_call 9; refine (within_any _ _ _ (by omega) (by omega)).mono ?_; rintro e wx ⟨rfl, rfl⟩))
    go_ret
    refine ⟨rfl, Below.trans ?_ ((next hb3 hb4).mono (by simp; omega))⟩
    repeat (first | exact Below.refl _ _ | refine ba ?_)
set_option maxHeartbeats 3000000 in
theorem planEdges_3 (what n : Int) (w : World) (hw : what % 7 = 3) :
    Calls Try.prog 3 #[.int .i64 what, .int .i64 n] w fun e w' => e = .returned (.bool true) ∧ Below w.heap.size w w' := by
  have n0 : 0 ≤ n % 8 := Int.emod_nonneg _ (by omega)
  have n1 : n % 8 < 8 := Int.emod_lt_of_pos _ (by omega)
  by_cases h0 : n % 8 - 1 < 1
  · have HC : Hid (chk 1 1 1 (n % 8 - 1) 1 1 1 0 = false) := edge_n3 (edge_lo h0)
    have m6 := make_six
    have m7 := make_seven
    go_enter Try.func3, Try.ntmps3
    go_wp2_with (first
      | (have mk := hb3; clear mk; go_at_call 11; refine (wakes_any _).mono ?_; rintro e w4 ⟨rfl, hb4⟩)
      | (have mk := hb2; clear mk; go_at_call 10; refine (check_any _ _ _ _ _ _ _ _ _ _ _).mono ?_; rintro e w3 ⟨rfl, hb3x⟩; have hb3 := next hb2 hb3x; clear hb3x hc2 hf2; obtain ⟨hc3, hf3⟩ := bcell hb3; simp only [chk_seven, errI])
      | (have mk := hb1; clear mk; go_at_call 10; refine (check_any _ _ _ _ _ _ _ _ _ _ _).mono ?_; rintro e w2 ⟨rfl, hb2x⟩; have hb2 := next hb1 hb2x; clear hb2x hc1 hf1; obtain ⟨hc2, hf2⟩ := bcell hb2; simp only [chk_six, errI])
      | (go_at_call 10; refine (check_any _ _ _ _ _ _ _ _ _ _ _).mono ?_; rintro e w1 ⟨rfl, hb1⟩; obtain ⟨hc1, hf1⟩ := bcell hb1; simp only [HC.out, errI])
      | (go_at_call 9; refine (within_any _ _ _ (by omega) (by omega)).mono ?_; rintro e wx ⟨rfl, rfl⟩))
    go_ret
    refine ⟨rfl, Below.trans ?_ ((next hb3 hb4).mono (by simp; omega))⟩
    repeat (first | exact Below.refl _ _ | refine ba ?_)
  by_cases h1 : 4 < n % 8 - 1
  · have HC : Hid (chk 1 1 1 (n % 8 - 1) 1 1 1 0 = false) := edge_n3 (edge_hi h1)
    have m6 := make_six
    have m7 := make_seven
    go_enter Try.func3, Try.ntmps3
    go_wp2_with (first
      | (have mk := hb3; clear mk; go_at_call 11; refine (wakes_any _).mono ?_; rintro e w4 ⟨rfl, hb4⟩)
      | (have mk := hb2; clear mk; go_at_call 10; refine (check_any _ _ _ _ _ _ _ _ _ _ _).mono ?_; rintro e w3 ⟨rfl, hb3x⟩; have hb3 := next hb2 hb3x; clear hb3x hc2 hf2; obtain ⟨hc3, hf3⟩ := bcell hb3; simp only [chk_seven, errI])
      | (have mk := hb1; clear mk; go_at_call 10; refine (check_any _ _ _ _ _ _ _ _ _ _ _).mono ?_; rintro e w2 ⟨rfl, hb2x⟩; have hb2 := next hb1 hb2x; clear hb2x hc1 hf1; obtain ⟨hc2, hf2⟩ := bcell hb2; simp only [chk_six, errI])
      | (go_at_call 10; refine (check_any _ _ _ _ _ _ _ _ _ _ _).mono ?_; rintro e w1 ⟨rfl, hb1⟩; obtain ⟨hc1, hf1⟩ := bcell hb1; simp only [HC.out, errI])
      | (go_at_call 9; refine (within_any _ _ _ (by omega) (by omega)).mono ?_; rintro e wx ⟨rfl, rfl⟩))
    go_ret
    refine ⟨rfl, Below.trans ?_ ((next hb3 hb4).mono (by simp; omega))⟩
    repeat (first | exact Below.refl _ _ | refine ba ?_)
  · have HC : Hid (chk 1 1 1 (n % 8 - 1) 1 1 1 0 = true) := edge_y3 (edge_in (by omega) (by omega))
    have m6 := make_six
    have m7 := make_seven
    go_enter Try.func3, Try.ntmps3
    go_wp2_with (first
      | (have mk := hb3; clear mk; go_at_call 11; refine (wakes_any _).mono ?_; rintro e w4 ⟨rfl, hb4⟩)
      | (have mk := hb2; clear mk; go_at_call 10; refine (check_any _ _ _ _ _ _ _ _ _ _ _).mono ?_; rintro e w3 ⟨rfl, hb3x⟩; have hb3 := next hb2 hb3x; clear hb3x hc2 hf2; obtain ⟨hc3, hf3⟩ := bcell hb3; simp only [chk_seven, errI])
      | (have mk := hb1; clear mk; go_at_call 10; refine (check_any _ _ _ _ _ _ _ _ _ _ _).mono ?_; rintro e w2 ⟨rfl, hb2x⟩; have hb2 := next hb1 hb2x; clear hb2x hc1 hf1; obtain ⟨hc2, hf2⟩ := bcell hb2; simp only [chk_six, errI])
      | (go_at_call 10; refine (check_any _ _ _ _ _ _ _ _ _ _ _).mono ?_; rintro e w1 ⟨rfl, hb1⟩; obtain ⟨hc1, hf1⟩ := bcell hb1; simp only [HC.out, errI])
      | (go_at_call 9; refine (within_any _ _ _ (by omega) (by omega)).mono ?_; rintro e wx ⟨rfl, rfl⟩))
    go_ret
    refine ⟨rfl, Below.trans ?_ ((next hb3 hb4).mono (by simp; omega))⟩
    repeat (first | exact Below.refl _ _ | refine ba ?_)
set_option maxHeartbeats 3000000 in
theorem planEdges_4 (what n : Int) (w : World) (hw : what % 7 = 4) :
    Calls Try.prog 3 #[.int .i64 what, .int .i64 n] w fun e w' => e = .returned (.bool true) ∧ Below w.heap.size w w' := by
  have n0 : 0 ≤ n % 7 := Int.emod_nonneg _ (by omega)
  have n1 : n % 7 < 7 := Int.emod_lt_of_pos _ (by omega)
  by_cases h0 : n % 7 - 1 < 1
  · have HC : Hid (chk 1 1 1 1 (n % 7 - 1) 1 1 0 = false) := edge_n4 (edge_lo h0)
    have m6 := make_six
    have m7 := make_seven
    go_enter Try.func3, Try.ntmps3
    go_wp2_with (first
      | (have mk := hb3; clear mk; go_at_call 11; refine (wakes_any _).mono ?_; rintro e w4 ⟨rfl, hb4⟩)
      | (have mk := hb2; clear mk; go_at_call 10; refine (check_any _ _ _ _ _ _ _ _ _ _ _).mono ?_; rintro e w3 ⟨rfl, hb3x⟩; have hb3 := next hb2 hb3x; clear hb3x hc2 hf2; obtain ⟨hc3, hf3⟩ := bcell hb3; simp only [chk_seven, errI])
      | (have mk := hb1; clear mk; go_at_call 10; refine (check_any _ _ _ _ _ _ _ _ _ _ _).mono ?_; rintro e w2 ⟨rfl, hb2x⟩; have hb2 := next hb1 hb2x; clear hb2x hc1 hf1; obtain ⟨hc2, hf2⟩ := bcell hb2; simp only [chk_six, errI])
      | (go_at_call 10; refine (check_any _ _ _ _ _ _ _ _ _ _ _).mono ?_; rintro e w1 ⟨rfl, hb1⟩; obtain ⟨hc1, hf1⟩ := bcell hb1; simp only [HC.out, errI])
      | (go_at_call 9; refine (within_any _ _ _ (by omega) (by omega)).mono ?_; rintro e wx ⟨rfl, rfl⟩))
    go_ret
    refine ⟨rfl, Below.trans ?_ ((next hb3 hb4).mono (by simp; omega))⟩
    repeat (first | exact Below.refl _ _ | refine ba ?_)
  by_cases h1 : 3 < n % 7 - 1
  · have HC : Hid (chk 1 1 1 1 (n % 7 - 1) 1 1 0 = false) := edge_n4 (edge_hi h1)
    have m6 := make_six
    have m7 := make_seven
    go_enter Try.func3, Try.ntmps3
    go_wp2_with (first
      | (have mk := hb3; clear mk; go_at_call 11; refine (wakes_any _).mono ?_; rintro e w4 ⟨rfl, hb4⟩)
      | (have mk := hb2; clear mk; go_at_call 10; refine (check_any _ _ _ _ _ _ _ _ _ _ _).mono ?_; rintro e w3 ⟨rfl, hb3x⟩; have hb3 := next hb2 hb3x; clear hb3x hc2 hf2; obtain ⟨hc3, hf3⟩ := bcell hb3; simp only [chk_seven, errI])
      | (have mk := hb1; clear mk; go_at_call 10; refine (check_any _ _ _ _ _ _ _ _ _ _ _).mono ?_; rintro e w2 ⟨rfl, hb2x⟩; have hb2 := next hb1 hb2x; clear hb2x hc1 hf1; obtain ⟨hc2, hf2⟩ := bcell hb2; simp only [chk_six, errI])
      | (go_at_call 10; refine (check_any _ _ _ _ _ _ _ _ _ _ _).mono ?_; rintro e w1 ⟨rfl, hb1⟩; obtain ⟨hc1, hf1⟩ := bcell hb1; simp only [HC.out, errI])
      | (go_at_call 9; refine (within_any _ _ _ (by omega) (by omega)).mono ?_; rintro e wx ⟨rfl, rfl⟩))
    go_ret
    refine ⟨rfl, Below.trans ?_ ((next hb3 hb4).mono (by simp; omega))⟩
    repeat (first | exact Below.refl _ _ | refine ba ?_)
  · have HC : Hid (chk 1 1 1 1 (n % 7 - 1) 1 1 0 = true) := edge_y4 (edge_in (by omega) (by omega))
    have m6 := make_six
    have m7 := make_seven
    go_enter Try.func3, Try.ntmps3
    go_wp2_with (first
      | (have mk := hb3; clear mk; go_at_call 11; refine (wakes_any _).mono ?_; rintro e w4 ⟨rfl, hb4⟩)
      | (have mk := hb2; clear mk; go_at_call 10; refine (check_any _ _ _ _ _ _ _ _ _ _ _).mono ?_; rintro e w3 ⟨rfl, hb3x⟩; have hb3 := next hb2 hb3x; clear hb3x hc2 hf2; obtain ⟨hc3, hf3⟩ := bcell hb3; simp only [chk_seven, errI])
      | (have mk := hb1; clear mk; go_at_call 10; refine (check_any _ _ _ _ _ _ _ _ _ _ _).mono ?_; rintro e w2 ⟨rfl, hb2x⟩; have hb2 := next hb1 hb2x; clear hb2x hc1 hf1; obtain ⟨hc2, hf2⟩ := bcell hb2; simp only [chk_six, errI])
      | (go_at_call 10; refine (check_any _ _ _ _ _ _ _ _ _ _ _).mono ?_; rintro e w1 ⟨rfl, hb1⟩; obtain ⟨hc1, hf1⟩ := bcell hb1; simp only [HC.out, errI])
      | (go_at_call 9; refine (within_any _ _ _ (by omega) (by omega)).mono ?_; rintro e wx ⟨rfl, rfl⟩))
    go_ret
    refine ⟨rfl, Below.trans ?_ ((next hb3 hb4).mono (by simp; omega))⟩
    repeat (first | exact Below.refl _ _ | refine ba ?_)
set_option maxHeartbeats 3000000 in
theorem planEdges_5 (what n : Int) (w : World) (hw : what % 7 = 5) :
    Calls Try.prog 3 #[.int .i64 what, .int .i64 n] w fun e w' => e = .returned (.bool true) ∧ Below w.heap.size w w' := by
  have n0 : 0 ≤ n % 12 := Int.emod_nonneg _ (by omega)
  have n1 : n % 12 < 12 := Int.emod_lt_of_pos _ (by omega)
  by_cases h0 : n % 12 - 1 < 1
  · have HC : Hid (chk 1 1 1 1 1 (n % 12 - 1) 1 0 = false) := edge_n5 (edge_lo h0)
    have m6 := make_six
    have m7 := make_seven
    go_enter Try.func3, Try.ntmps3
    go_wp2_with (first
      | (have mk := hb3; clear mk; go_at_call 11; refine (wakes_any _).mono ?_; rintro e w4 ⟨rfl, hb4⟩)
      | (have mk := hb2; clear mk; go_at_call 10; refine (check_any _ _ _ _ _ _ _ _ _ _ _).mono ?_; rintro e w3 ⟨rfl, hb3x⟩; have hb3 := next hb2 hb3x; clear hb3x hc2 hf2; obtain ⟨hc3, hf3⟩ := bcell hb3; simp only [chk_seven, errI])
      | (have mk := hb1; clear mk; go_at_call 10; refine (check_any _ _ _ _ _ _ _ _ _ _ _).mono ?_; rintro e w2 ⟨rfl, hb2x⟩; have hb2 := next hb1 hb2x; clear hb2x hc1 hf1; obtain ⟨hc2, hf2⟩ := bcell hb2; simp only [chk_six, errI])
      | (go_at_call 10; refine (check_any _ _ _ _ _ _ _ _ _ _ _).mono ?_; rintro e w1 ⟨rfl, hb1⟩; obtain ⟨hc1, hf1⟩ := bcell hb1; simp only [HC.out, errI])
      | (go_at_call 9; refine (within_any _ _ _ (by omega) (by omega)).mono ?_; rintro e wx ⟨rfl, rfl⟩))
    go_ret
    refine ⟨rfl, Below.trans ?_ ((next hb3 hb4).mono (by simp; omega))⟩
    repeat (first | exact Below.refl _ _ | refine ba ?_)
  by_cases h1 : 8 < n % 12 - 1
  · have HC : Hid (chk 1 1 1 1 1 (n % 12 - 1) 1 0 = false) := edge_n5 (edge_hi h1)
    have m6 := make_six
    have m7 := make_seven
    go_enter Try.func3, Try.ntmps3
    go_wp2_with (first
      | (have mk := hb3; clear mk; go_at_call 11; refine (wakes_any _).mono ?_; rintro e w4 ⟨rfl, hb4⟩)
      | (have mk := hb2; clear mk; go_at_call 10; refine (check_any _ _ _ _ _ _ _ _ _ _ _).mono ?_; rintro e w3 ⟨rfl, hb3x⟩; have hb3 := next hb2 hb3x; clear hb3x hc2 hf2; obtain ⟨hc3, hf3⟩ := bcell hb3; simp only [chk_seven, errI])
      | (have mk := hb1; clear mk; go_at_call 10; refine (check_any _ _ _ _ _ _ _ _ _ _ _).mono ?_; rintro e w2 ⟨rfl, hb2x⟩; have hb2 := next hb1 hb2x; clear hb2x hc1 hf1; obtain ⟨hc2, hf2⟩ := bcell hb2; simp only [chk_six, errI])
      | (go_at_call 10; refine (check_any _ _ _ _ _ _ _ _ _ _ _).mono ?_; rintro e w1 ⟨rfl, hb1⟩; obtain ⟨hc1, hf1⟩ := bcell hb1; simp only [HC.out, errI])
      | (go_at_call 9; refine (within_any _ _ _ (by omega) (by omega)).mono ?_; rintro e wx ⟨rfl, rfl⟩))
    go_ret
    refine ⟨rfl, Below.trans ?_ ((next hb3 hb4).mono (by simp; omega))⟩
    repeat (first | exact Below.refl _ _ | refine ba ?_)
  · have HC : Hid (chk 1 1 1 1 1 (n % 12 - 1) 1 0 = true) := edge_y5 (edge_in (by omega) (by omega))
    have m6 := make_six
    have m7 := make_seven
    go_enter Try.func3, Try.ntmps3
    go_wp2_with (first
      | (have mk := hb3; clear mk; go_at_call 11; refine (wakes_any _).mono ?_; rintro e w4 ⟨rfl, hb4⟩)
      | (have mk := hb2; clear mk; go_at_call 10; refine (check_any _ _ _ _ _ _ _ _ _ _ _).mono ?_; rintro e w3 ⟨rfl, hb3x⟩; have hb3 := next hb2 hb3x; clear hb3x hc2 hf2; obtain ⟨hc3, hf3⟩ := bcell hb3; simp only [chk_seven, errI])
      | (have mk := hb1; clear mk; go_at_call 10; refine (check_any _ _ _ _ _ _ _ _ _ _ _).mono ?_; rintro e w2 ⟨rfl, hb2x⟩; have hb2 := next hb1 hb2x; clear hb2x hc1 hf1; obtain ⟨hc2, hf2⟩ := bcell hb2; simp only [chk_six, errI])
      | (go_at_call 10; refine (check_any _ _ _ _ _ _ _ _ _ _ _).mono ?_; rintro e w1 ⟨rfl, hb1⟩; obtain ⟨hc1, hf1⟩ := bcell hb1; simp only [HC.out, errI])
      | (go_at_call 9; refine (within_any _ _ _ (by omega) (by omega)).mono ?_; rintro e wx ⟨rfl, rfl⟩))
    go_ret
    refine ⟨rfl, Below.trans ?_ ((next hb3 hb4).mono (by simp; omega))⟩
    repeat (first | exact Below.refl _ _ | refine ba ?_)
set_option maxHeartbeats 3000000 in
theorem planEdges_6 (what n : Int) (w : World) (hw : what % 7 = 6) :
    Calls Try.prog 3 #[.int .i64 what, .int .i64 n] w fun e w' => e = .returned (.bool true) ∧ Below w.heap.size w w' := by
  have n0 : 0 ≤ n % 12 := Int.emod_nonneg _ (by omega)
  have n1 : n % 12 < 12 := Int.emod_lt_of_pos _ (by omega)
  by_cases h0 : n % 12 - 1 < 1
  · have HC : Hid (chk 1 1 1 1 1 1 (n % 12 - 1) 0 = false) := edge_n6 (edge_lo h0)
    have m6 := make_six
    have m7 := make_seven
    go_enter Try.func3, Try.ntmps3
    go_wp2_with (first
      | (have mk := hb3; clear mk; go_at_call 11; refine (wakes_any _).mono ?_; rintro e w4 ⟨rfl, hb4⟩)
      | (have mk := hb2; clear mk; go_at_call 10; refine (check_any _ _ _ _ _ _ _ _ _ _ _).mono ?_; rintro e w3 ⟨rfl, hb3x⟩; have hb3 := next hb2 hb3x; clear hb3x hc2 hf2; obtain ⟨hc3, hf3⟩ := bcell hb3; simp only [chk_seven, errI])
      | (have mk := hb1; clear mk; go_at_call 10; refine (check_any _ _ _ _ _ _ _ _ _ _ _).mono ?_; rintro e w2 ⟨rfl, hb2x⟩; have hb2 := next hb1 hb2x; clear hb2x hc1 hf1; obtain ⟨hc2, hf2⟩ := bcell hb2; simp only [chk_six, errI])
      | (go_at_call 10; refine (check_any _ _ _ _ _ _ _ _ _ _ _).mono ?_; rintro e w1 ⟨rfl, hb1⟩; obtain ⟨hc1, hf1⟩ := bcell hb1; simp only [HC.out, errI])
      | (go_at_call 9; refine (within_any _ _ _ (by omega) (by omega)).mono ?_; rintro e wx ⟨rfl, rfl⟩))
    go_ret
    refine ⟨rfl, Below.trans ?_ ((next hb3 hb4).mono (by simp; omega))⟩
    repeat (first | exact Below.refl _ _ | refine ba ?_)
  by_cases h1 : 8 < n % 12 - 1
  · have HC : Hid (chk 1 1 1 1 1 1 (n % 12 - 1) 0 = false) := edge_n6 (edge_hi h1)
    have m6 := make_six
    have m7 := make_seven
    go_enter Try.func3, Try.ntmps3
    go_wp2_with (first
      | (have mk := hb3; clear mk; go_at_call 11; refine (wakes_any _).mono ?_; rintro e w4 ⟨rfl, hb4⟩)
      | (have mk := hb2; clear mk; go_at_call 10; refine (check_any _ _ _ _ _ _ _ _ _ _ _).mono ?_; rintro e w3 ⟨rfl, hb3x⟩; have hb3 := next hb2 hb3x; clear hb3x hc2 hf2; obtain ⟨hc3, hf3⟩ := bcell hb3; simp only [chk_seven, errI])
      | (have mk := hb1; clear mk; go_at_call 10; refine (check_any _ _ _ _ _ _ _ _ _ _ _).mono ?_; rintro e w2 ⟨rfl, hb2x⟩; have hb2 := next hb1 hb2x; clear hb2x hc1 hf1; obtain ⟨hc2, hf2⟩ := bcell hb2; simp only [chk_six, errI])
      | (go_at_call 10; refine (check_any _ _ _ _ _ _ _ _ _ _ _).mono ?_; rintro e w1 ⟨rfl, hb1⟩; obtain ⟨hc1, hf1⟩ := bcell hb1; simp only [HC.out, errI])
      | (go_at_call 9; refine (within_any _ _ _ (by omega) (by omega)).mono ?_; rintro e wx ⟨rfl, rfl⟩))
    go_ret
    refine ⟨rfl, Below.trans ?_ ((next hb3 hb4).mono (by simp; omega))⟩
    repeat (first | exact Below.refl _ _ | refine ba ?_)
  · have HC : Hid (chk 1 1 1 1 1 1 (n % 12 - 1) 0 = true) := edge_y6 (edge_in (by omega) (by omega))
    have m6 := make_six
    have m7 := make_seven
    go_enter Try.func3, Try.ntmps3
    go_wp2_with (first
      | (have mk := hb3; clear mk; go_at_call 11; refine (wakes_any _).mono ?_; rintro e w4 ⟨rfl, hb4⟩)
      | (have mk := hb2; clear mk; go_at_call 10; refine (check_any _ _ _ _ _ _ _ _ _ _ _).mono ?_; rintro e w3 ⟨rfl, hb3x⟩; have hb3 := next hb2 hb3x; clear hb3x hc2 hf2; obtain ⟨hc3, hf3⟩ := bcell hb3; simp only [chk_seven, errI])
      | (have mk := hb1; clear mk; go_at_call 10; refine (check_any _ _ _ _ _ _ _ _ _ _ _).mono ?_; rintro e w2 ⟨rfl, hb2x⟩; have hb2 := next hb1 hb2x; clear hb2x hc1 hf1; obtain ⟨hc2, hf2⟩ := bcell hb2; simp only [chk_six, errI])
      | (go_at_call 10; refine (check_any _ _ _ _ _ _ _ _ _ _ _).mono ?_; rintro e w1 ⟨rfl, hb1⟩; obtain ⟨hc1, hf1⟩ := bcell hb1; simp only [HC.out, errI])
      | (go_at_call 9; refine (within_any _ _ _ (by omega) (by omega)).mono ?_; rintro e wx ⟨rfl, rfl⟩))
    go_ret
    refine ⟨rfl, Below.trans ?_ ((next hb3 hb4).mono (by simp; omega))⟩
    repeat (first | exact Below.refl _ _ | refine ba ?_)
theorem planEdges_walk (what n : Int) (w : World) :
    Calls Try.prog 3 #[.int .i64 what, .int .i64 n] w fun e w' => e = .returned (.bool true) ∧ Below w.heap.size w w' := by
  have h0 : 0 ≤ what % 7 := Int.emod_nonneg _ (by omega)
  have h1 : what % 7 < 7 := Int.emod_lt_of_pos _ (by omega)
  have h : what % 7 = 0 ∨ what % 7 = 1 ∨ what % 7 = 2 ∨ what % 7 = 3 ∨ what % 7 = 4 ∨ what % 7 = 5 ∨ what % 7 = 6 := by omega
  rcases h with h | h | h | h | h | h | h
  · exact planEdges_0 what n w h
  · exact planEdges_1 what n w h
  · exact planEdges_2 what n w h
  · exact planEdges_3 what n w h
  · exact planEdges_4 what n w h
  · exact planEdges_5 what n w h
  · exact planEdges_6 what n w h
end Go.Proofs.Ytpagdfmajeodiaa
