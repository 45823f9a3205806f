/- The contracts of packet.Request and Answer, and the walk of PacketKinds: it answers true and writes nothing that was there. No condition. -/
import Derived.Test.YtbllhjhlkngchaaPktPack
namespace Go.Proofs.Ytbllhjhlkngchaa
open Go.RowKit
set_option linter.unusedVariables false

def ansI (k : Int) : Int := if k = 1 then 7 else if k = 2 ∨ k = 4 ∨ k = 5 then 8 else if k = 3 ∨ k = 6 then 9 else 0
theorem request_any (k : Int) (w : World) :
    Calls Try.prog 23 #[.int .i64 k] w fun e w' => e = .returned (.bool (inB 1 k 6)) ∧ w = w' := by
  go_enter Try.func23, Try.ntmps23
  go_wp2_with (go_at_call 35; refine (pw_any _ _ _ _).mono ?_; rintro e w1 ⟨rfl, rfl⟩)
  go_ret
  exact ⟨rfl, rfl⟩
set_option maxHeartbeats 400000 in
theorem answer_any (k : Int) (w : World) :
    Calls Try.prog 21 #[.int .i64 k] w fun e w' => e = .returned (.int .i64 (ansI k)) ∧ w = w' := by
  have HE : Hid (∀ v : Int, ansI k = v → Ending.returned (.int .i64 v) = Ending.returned (.int .i64 (ansI k))) := fun v h => by rw [h]
  go_enter Try.func21, Try.ntmps21
  go_wp2
  all_goals go_ret
  all_goals refine ⟨HE.out _ ?_, rfl⟩
  all_goals clear HE
  all_goals unfold ansI
  all_goals simp only [beq_iff_eq, beq_eq_false_iff_ne, ne_eq] at *
  all_goals first | (exfalso; simp_all; done) | (repeat (first | rw [if_pos (by omega)] | rw [if_neg (by omega)]))
theorem ans_no {k : Int} (h : k < 1 ∨ 6 < k) : ansI k = 0 := by unfold ansI; rw [if_neg (by omega), if_neg (by omega), if_neg (by omega)]
theorem ans_yes {k : Int} (h : 1 ≤ k ∧ k ≤ 6) : 7 ≤ ansI k ∧ ansI k ≤ 9 := by unfold ansI; repeat (first | omega | split)
set_option maxHeartbeats 1000000 in
theorem packetKinds_walk (kind : Int) (w : World) :
    Calls Try.prog 9 #[.int .i64 kind] w fun e w' => e = .returned (.bool true) ∧ Below w.heap.size w w' := by
  go_enter Try.func9, Try.ntmps9
  go_wp2
  go_loop [3, 4] (fun n i => ∃ k : Nat, k ≤ 9 ∧ i = .int .i64 ((k : Int) + 1) ∧ n = .int .i64 (if k ≤ 6 then (k : Int) else 6)) (fun _ i => 10 - (intOf i).toNat)
  case atStart => exact ⟨0, by omega, rfl, rfl⟩
  case round =>
    obtain ⟨k, hk, rfl, rfl⟩ := hrel
    by_cases hlt : k < 9
    · by_cases h6 : k < 6
      · have hn : (if k ≤ 6 then (k : Int) else 6) = (k : Int) := if_pos (by omega)
        have hn1 : Hid ((if k + 1 ≤ 6 then ((k + 1 : Nat) : Int) else 6) = ((k + 1 : Nat) : Int)) := if_pos (by omega)
        have hr : inB 1 ((k : Int) + 1) 6 = true := inB_t (by omega) (by omega)
        obtain ⟨y0, y1⟩ := ans_yes (k := (k : Int) + 1) (by omega)
        obtain ⟨y, hya⟩ : ∃ y, ansI ((k : Int) + 1) = y := ⟨_, rfl⟩
        rw [hya] at y0 y1
        have hy : ansI y = 0 := ans_no (by omega)
        have hyn : (y != 0) = true := by simp; omega
        go_wp2_with (first
          | (go_at_call 23; refine (request_any _ _).mono ?_; rintro e w1 ⟨rfl, rfl⟩)
          | (go_at_call 21; refine (answer_any _ _).mono ?_; rintro e w1 ⟨rfl, rfl⟩))
        go_round
        case rel => exact ⟨k + 1, by omega, by go_num, by rw [hn1.out]; go_num⟩
        case measure => simp [intOf]; omega
      · have hn1 : Hid ((if k + 1 ≤ 6 then ((k + 1 : Nat) : Int) else 6) = (if k ≤ 6 then (k : Int) else 6)) := by show _ = _; rw [if_neg (by omega)]; split <;> omega
        have hr : inB 1 ((k : Int) + 1) 6 = false := inB_f (by omega)
        have hya : ansI ((k : Int) + 1) = 0 := ans_no (by omega)
        generalize hq : (if k ≤ 6 then (k : Int) else 6) = q at *
        have HQ : Hid ((if k ≤ 6 then (k : Int) else 6) = q) := hq
        clear hq
        go_wp2_with (first
          | (go_at_call 23; refine (request_any _ _).mono ?_; rintro e w1 ⟨rfl, rfl⟩)
          | (go_at_call 21; refine (answer_any _ _).mono ?_; rintro e w1 ⟨rfl, rfl⟩))
        go_round
        case rel => exact ⟨k + 1, by omega, by go_num, by rw [hn1.out]⟩
        case measure => simp [intOf]; omega
    · obtain rfl : k = 9 := by omega
      have hq : (if (9 : Nat) ≤ 6 then ((9 : Nat) : Int) else 6) = 6 := rfl
      rw [hq]
      clear hq hlt
      by_cases h1 : 1 ≤ kind
      · have h1' : decide (1 ≤ kind) = true := decide_eq_true h1
        by_cases h6 : kind ≤ 6
        · have h6' : decide (kind ≤ 6) = true := decide_eq_true h6
          have hr : inB 1 kind 6 = true := inB_t h1 h6
          obtain ⟨y0, y1⟩ := ans_yes (k := kind) (by omega)
          obtain ⟨y, hya⟩ : ∃ y, ansI kind = y := ⟨_, rfl⟩
          rw [hya] at y0 y1
          have hyn : (y != 0) = true := by simp; omega
          go_wp2_with (first
            | (go_at_call 23; refine (request_any _ _).mono ?_; rintro e w1 ⟨rfl, rfl⟩)
            | (go_at_call 21; refine (answer_any _ _).mono ?_; rintro e w1 ⟨rfl, rfl⟩)
            | (go_at_call 15; refine (wakes_any _).mono ?_; rintro e w1 ⟨rfl, hb1⟩))
          go_ret
          exact ⟨rfl, hb1⟩
        · have h6' : decide (kind ≤ 6) = false := decide_eq_false h6
          have hr : inB 1 kind 6 = false := inB_f (by omega)
          have hya : ansI kind = 0 := ans_no (by omega)
          go_wp2_with (first
            | (go_at_call 23; refine (request_any _ _).mono ?_; rintro e w1 ⟨rfl, rfl⟩)
            | (go_at_call 21; refine (answer_any _ _).mono ?_; rintro e w1 ⟨rfl, rfl⟩)
            | (go_at_call 15; refine (wakes_any _).mono ?_; rintro e w1 ⟨rfl, hb1⟩))
          go_ret
          exact ⟨rfl, hb1⟩
      · have h1' : decide (1 ≤ kind) = false := decide_eq_false h1
        have hr : inB 1 kind 6 = false := inB_f (by omega)
        have hya : ansI kind = 0 := ans_no (by omega)
        go_wp2_with (first
          | (go_at_call 23; refine (request_any _ _).mono ?_; rintro e w1 ⟨rfl, rfl⟩)
          | (go_at_call 21; refine (answer_any _ _).mono ?_; rintro e w1 ⟨rfl, rfl⟩)
          | (go_at_call 15; refine (wakes_any _).mono ?_; rintro e w1 ⟨rfl, hb1⟩))
        go_ret
        exact ⟨rfl, hb1⟩
end Go.Proofs.Ytbllhjhlkngchaa
