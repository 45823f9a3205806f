/- The contracts of packet's within, Check and flagByte. Conditions: as each theorem states them. -/
import Derived.Test.YtbllhjhlkngchaaPktMath
namespace Go.Proofs.Ytbllhjhlkngchaa
open Go.RowKit
set_option linter.unusedVariables false

theorem pw_any (a n b : Int) (w : World) :
    Calls Try.prog 35 #[.int .i64 a, .int .i64 n, .int .i64 b] w fun e w' => e = .returned (.bool (inB a n b)) ∧ w = w' := by
  by_cases h : a ≤ n
  · have h' : decide (a ≤ n) = true := decide_eq_true h
    go_enter Try.func35, Try.ntmps35
    go_wp2
    go_ret
    exact ⟨ret_bool (by unfold inB; simp [h]), rfl⟩
  · have h' : decide (a ≤ n) = false := decide_eq_false h
    go_enter Try.func35, Try.ntmps35
    go_wp2
    go_ret
    exact ⟨ret_bool (inB_f (by omega)).symm, rfl⟩
theorem flagByte_any (b : Bool) (w : World) :
    Calls Try.prog 43 #[.bool b] w fun e w' => e = .returned (.int .u8 (flI b)) ∧ w = w' := by
  cases b
  · go_enter Try.func43, Try.ntmps43
    go_wp2
    go_ret
    exact ⟨rfl, rfl⟩
  · go_enter Try.func43, Try.ntmps43
    go_wp2
    go_ret
    exact ⟨rfl, rfl⟩
theorem inB_not {a n b : Int} (h : (!inB a n b) = true) : inB a n b = false := by simpa using h

set_option maxHeartbeats 1000000 in
theorem check_any (x : Pk) (a : Option Addr) (n cap : Nat) (w : World) (hsl : Sl w a n cap x.z) :
    Calls Try.prog 16 #[x.val (.slice a n cap)] w fun e w' => e = .returned (.int .i64 x.err) ∧ Below w.heap.size w w' := by
  have hl := hsl.len
  have hle := hsl.le
  have hmx := hsl.max
  unfold maxLen at hmx
  obtain ⟨k, f, t, i, l, p, s, fl, z⟩ := x
  simp only at hl
  have HE : ∀ v : Int, Pk.err ⟨k, f, t, i, l, p, s, fl, z⟩ = v → Ending.returned (.int .i64 v) = Ending.returned (.int .i64 (Pk.err ⟨k, f, t, i, l, p, s, fl, z⟩)) := fun v h => by rw [h]
  have H1 : Hid (inB 1 k 9 = false ∨ inB 0 f 5 = false ∨ inB 0 t 5 = false ∨ inB 0 i 4095 = false ∨ inB 0 l 7 = false ∨ inB (-1) p 5 = false ∨ inB 0 s 2 = false ∨ 4 < (n : Int) → Pk.err ⟨k, f, t, i, l, p, s, fl, z⟩ = 1) := fun h => Pk.err_f (by unfold Pk.right; rcases h with h | h | h | h | h | h | h | h <;> simp [h]; omega)
  have H0 : Hid (inB 1 k 9 = true → inB 0 f 5 = true → inB 0 t 5 = true → inB 0 i 4095 = true → inB 0 l 7 = true → inB (-1) p 5 = true → inB 0 s 2 = true → (n : Int) ≤ 4 → Pk.err ⟨k, f, t, i, l, p, s, fl, z⟩ = 0) := fun h1 h2 h3 h4 h5 h6 h7 h8 => Pk.err_t (by unfold Pk.right; simp [h1, h2, h3, h4, h5, h6, h7]; omega)
  unfold Pk.val
  go_enter Try.func16, Try.ntmps16
  go_wp2_with (go_at_call 35; refine (pw_any _ _ _ _).mono ?_; rintro e w1 ⟨rfl, rfl⟩)
  all_goals go_ret
  all_goals refine ⟨HE _ ?_, (Below.refl _ _).alloc (Nat.le_refl _) _⟩
  all_goals clear HE
  all_goals simp only [Bool.not_eq_true', Bool.not_eq_false'] at *
  all_goals first
    | exact H0.out (by assumption) (by assumption) (by assumption) (by assumption) (by assumption) (by assumption) (by assumption) (by assumption)
    | exact H1.out (.inl (by assumption))
    | exact H1.out (.inr (.inl (by assumption)))
    | exact H1.out (.inr (.inr (.inl (by assumption))))
    | exact H1.out (.inr (.inr (.inr (.inl (by assumption)))))
    | exact H1.out (.inr (.inr (.inr (.inr (.inl (by assumption))))))
    | exact H1.out (.inr (.inr (.inr (.inr (.inr (.inl (by assumption)))))))
    | exact H1.out (.inr (.inr (.inr (.inr (.inr (.inr (.inl (by assumption))))))))
    | exact H1.out (.inr (.inr (.inr (.inr (.inr (.inr (.inr (by assumption))))))))
    | (exfalso; clear H0 H1; simp_all; done)
end Go.Proofs.Ytbllhjhlkngchaa
